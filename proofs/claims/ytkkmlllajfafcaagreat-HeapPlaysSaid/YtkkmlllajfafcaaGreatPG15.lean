/-
  The contract of the document's heap's Place. Conditions: those that stand in each theorem.
-/
import Derived.BigQuiet
import Derived.Deep.RegionHeld3
import Derived.Test.YtkkmlllajfafcaaGreatPDq
import Derived.Test.YtkkmlllajfafcaaGreatPDr
import Derived.Test.YtkkmlllajfafcaaGreatPG7
import Derived.Test.YtkkmlllajfafcaaGreatPG6
namespace Go.Proofs.YtkkmlllajfafcaaGreat
set_option linter.unusedVariables false
set_option linter.unusedSimpArgs false
open Go.RowKit Go.Deep Go.Maps

theorem DR.setBorn {w : World} {d : DB} {q : Nat} {m : HM} (T : DR w d q m) : DR (w.setCell ⟨d.g, 3, none⟩ (.int .i64 ((m.born + 1 : Nat) : Int))) d (q + 1) m.bear := by
  have k := Kp.cell w ⟨d.g, 3, none⟩ (.int .i64 ((m.born + 1 : Nat) : Int))
  obtain ⟨n1, n2, n3, n4, n5, n6⟩ := T.nd'
  obtain ⟨sp, h1, h2, h3, B⟩ := T.B
  refine ⟨T.inv.bear, ⟨T.lst.up, T.lst.mem⟩, ⟨T.fws.nd, T.fws.mem, T.fws.len⟩, T.nd, Nat.le_succ_of_le T.fq, Nat.succ_le_succ T.bq, ?_, ⟨sp, h1, h2, h3, B.kp k (by simpa using n1.symm)⟩, own_kpS T.O k (fun y hy => by simpa using (n2 y hy).1), own_kpS T.F k (fun y hy => by simpa using (n3 y hy).1), fun x hx => ?_⟩
  · have := T.G.set_ 3 (.int .i64 ((m.born + 1 : Nat) : Int))
    exact this
  · have h := T.R x hx
    have e1 : x.rb ≠ d.g := fun e => n4 (rowsOf_mem.2 ⟨x, hx, .inl e.symm⟩)
    have e2 : x.db ≠ d.g := fun e => n4 (rowsOf_mem.2 ⟨x, hx, .inr e.symm⟩)
    exact ⟨h.1.imp fun sp B => B.kp k (by simpa using e1), h.2.imp fun sp B => B.kp k (by simpa using e2)⟩
theorem blk_at {W : World} {a b : Nat} {t : TypeId} {cs : Array Value} (e : a = b) (h : Blk W a t cs) : Blk W b t cs := e ▸ h
def HM.nob (m : HM) (r dd kd : Nat) : Ob := ⟨m.born + 1, r, dd, kd, List.replicate (r + dd) 0, false⟩
theorem nob_eq (m : HM) (r dd kd : Nat) : m.newOb (r : Int) (dd : Int) (kd : Int) = m.nob r dd kd := by simp [HM.newOb, HM.nob]
section
variable {w w' W w4 w7 : World} {d : DB} {q q' : Nat} {m m' : HM}
theorem put_chg (T : DR w d q m) {k : Nat} {x : DO} {v' : Value} (K : Kp [d.g] w w7) (R : DR w7 { d with ov := v', os := d.os.take k ++ x :: d.os.drop k } q' m') (hv : ∀ y, v'.ownBlock = some y → w.heap.size ≤ y) (h1 : w.heap.size ≤ x.rb) (h2 : w.heap.size ≤ x.db) : DChg w d q' m' w7 := by
  refine ⟨{ d with ov := v', os := d.os.take k ++ x :: d.os.drop k }, rfl, R, K.mono (fun y hy => .inl (by simp at hy; subst hy; simp [DB.all])), fun y hy => ?_⟩
  simp only [DB.all, List.mem_cons, List.mem_append, Option.mem_toList] at hy ⊢
  rcases hy with h | h | h | h | h
  · exact .inl (.inl h)
  · exact .inl (.inr (.inl h))
  · exact .inr (hv y h)
  · exact .inl (.inr (.inr (.inr (.inl h))))
  · obtain ⟨z, hz, e⟩ := rowsOf_mem.1 h
    rcases List.mem_append.1 hz with h | h
    · exact .inl (.inr (.inr (.inr (.inr (rowsOf_mem.2 ⟨z, List.mem_of_mem_take h, e⟩)))))
    · rcases List.mem_cons.1 h with rfl | h
      · rcases e with rfl | rfl
        · exact .inr h1
        · exact .inr h2
      · exact .inl (.inr (.inr (.inr (.inr (rowsOf_mem.2 ⟨z, List.mem_of_mem_drop h, e⟩)))))
/-- The object that Place makes. -/
def HM.newDO (m : HM) (t r dd kd rb db : Nat) : DO := ⟨t, m.nob r dd kd, rb, r, db, dd⟩
theorem newDO_new (T : DR w d q m) {t r dd kd rb db : Nat} (hv : vldB r dd kd = true) (he : roomE m (t : Int) (wdN r dd) 0 = 0) (B1 : Blk W rb 3 (zcells (List.replicate r 0) ++ []).toArray) (B2 : Blk W db 3 (zcells (List.replicate dd 0) ++ []).toArray) (h1 : w.heap.size ≤ rb) (h2 : w.heap.size ≤ db) (hne : rb ≠ db) :
    New1 W d m.bear (m.newDO t r dd kd rb db) ∧ m.bear.add t (m.nob r dd kd) = m.placeM (t : Int) (r : Int) (dd : Int) (kd : Int) := by
  obtain ⟨k, hk, ev, hlt, hs, htk⟩ := roomE_zero he
  obtain rfl : t = k := by omega
  obtain ⟨hf, J, hok⟩ := place_model T.inv hv ev hs htk
  rw [nob_eq] at J hok
  have hwd := wdN_bd (vldB_bd hv).1 (vldB_bd hv).2.1
  have hno : m.bear.ob t = none := by
    rcases ho : m.bear.ob t with _ | o
    · rfl
    · have := (T.inv.bear.ok _ _ ho).wd_bd
      exact absurd ⟨t, o, ho, Nat.le_refl _, by omega⟩ (hf t (Nat.le_refl _) (by omega))
  have hlt := T.lt
  refine ⟨⟨hno, J, ⟨[], ?_⟩, ⟨[], ?_⟩, fun hm => by have := hlt rb hm; omega, fun hm => by have := hlt db hm; omega, hne⟩, ?_⟩
  · have e : (m.newDO t r dd kd rb db).rs = List.replicate r 0 := by simp [HM.newDO, DO.rs, HM.nob]
    rw [e]; exact B1
  · have e : (m.newDO t r dd kd rb db).ds = List.replicate dd 0 := by simp [HM.newDO, DO.ds, HM.nob]
    rw [e]; exact B2
  · have e : m.placeE (t : Int) (r : Int) (dd : Int) (kd : Int) = 0 := by
      unfold HM.placeE
      rw [hv, if_pos rfl, Int.toNat_natCast, Int.toNat_natCast]
      exact he
    unfold HM.placeM
    rw [if_pos e, Int.toNat_natCast, nob_eq]
set_option maxRecDepth 100000 in
set_option maxHeartbeats 2000000 in
theorem d_place (T : DR w d q m) (a r dd kd : Int) (ha : W64 a) (hq : q ≤ 900000000) :
    Calls Tryz.prog 66 #[.pointer (some ⟨d.g, 0, none⟩), .int .i64 a, .agg #[.int .i64 r, .int .i64 dd, .int .i64 kd]] w fun e w' => e = .returned (.tuple #[.int .i64 (m.placeV a r dd kd), .int .i64 (m.placeE a r dd kd)]) ∧ DChg w d (q + 1) (m.placeM a r dd kd) w' := by
  have HT := hid T
  have HB0 := hid (Blk.new w 33 #[.int .i64 r, .int .i64 dd, .int .i64 kd])
  have HK0 := hid (Kp.new w (.cells #[.int .i64 r, .int .i64 dd, .int .i64 kd] 33))
  have hbb := HB0.out
  have b0 := hbb.cell 0
  have b1 := hbb.cell 1
  have b2 := hbb.cell 2
  rcases hv : vldB r dd kd
  · have e1 : m.placeE a r dd kd = 2 := by simp [HM.placeE, hv]
    have e2 : m.placeV a r dd kd = 0 := by simp [HM.placeV, e1]
    have e3 : m.placeM a r dd kd = m := by simp [HM.placeM, e1]
    rw [e1, e2, e3]
    have HV := hid hv
    clear T hbb hv e1 e2 e3
    go_enter Tryz.func66, Tryz.ntmps66
    go_wp2_with (first
      | (go_at_call 60; refine (d_made (HT.out.kp0 HK0.out)).mono ?_; rintro e w' ⟨rfl, n1, rfl⟩)
      | (go_at_call 136; refine (r_valid r dd kd _).mono ?_; rintro e w3 ⟨rfl, K3⟩; rw [HV.out]; have HK3 := hid ((HK0.out.drewN n1).chain K3); clear K3))
    go_ret2
    exact ⟨rfl, (DChg.same HT.out HK3.out).mono (by omega)⟩
  · obtain ⟨r, dd, kd, rfl, rfl, rfl, hr1, hd1, hk1⟩ := vldB_nat hv
    have HV := hid hv
    have hpE : m.placeE a (r : Int) (dd : Int) (kd : Int) = roomE m a (wdN r dd) 0 := by
      unfold HM.placeE
      rw [hv, if_pos rfl, Int.toNat_natCast, Int.toNat_natCast]
    have HHB : Hid (∀ a o, m.ob a = some o → (o.id ≠ 0 ↔ a ≠ 0)) := fun a o ho => by
      have h1 := (T.inv.ok _ _ ho).pos
      have h2 := T.inv.lo ho
      omega
    have hbq := T.bq
    by_cases h0 : roomE m a (wdN r dd) 0 = 0
    · have hz : ∃ t : Nat, a = (t : Int) := by
        obtain ⟨t, ht, _⟩ := roomE_zero h0
        exact ⟨t, ht⟩
      obtain ⟨t, rfl⟩ := hz
      have HRE := hid h0
      have HPV : Hid (m.placeV (t : Int) (r : Int) (dd : Int) (kd : Int) = ((m.born + 1 : Nat) : Int) ∧ m.placeE (t : Int) (r : Int) (dd : Int) (kd : Int) = 0) := by
        have e : m.placeE (t : Int) (r : Int) (dd : Int) (kd : Int) = 0 := by rw [hpE]; exact h0
        exact ⟨by unfold HM.placeV; rw [if_pos e], e⟩
      have hmk : ∀ (n : Nat), n ≤ 300 → ∀ W : World, (Instr.makeSlice 59 (.int .i64 (n : Int)) (.int .i64 (n : Int))).run Tryz.prog W = .ok (.slice (some ⟨W.heap.size, 0, none⟩) n n) (W.alloc (.cells (madeCells #[.int .i64 0] n) 3)) := fun n hn W =>
        run_make_row' (P := Tryz.prog) 59 3 (.int .i64 0) 8 Tryz.underlying59 infoInt rfl .i64 .i64 n (by omega) (by omega) W
      have hmr := hmk r (by omega)
      have hmd := hmk dd (by omega)
      have HW64 := hid ha
      have HNG : Hid (w.heap.size ∉ [d.g]) := by show _ ∉ _; simp; have := T.lt d.g (by simp [DB.all]); omega
      clear T hbb hv hpE h0 hmk ha
      go_enter Tryz.func66, Tryz.ntmps66
      go_wp2_with (first
        | (go_at_call 60; refine (d_made (HT.out.kp0 HK0.out)).mono ?_; rintro e w1 ⟨rfl, h1⟩; have HK1 := hid (HK0.out.chain (Kp.of_drewN h1)); have hb1 := HB0.out.kp (Kp.of_drewN h1) (by simp); have c0 := hb1.cell 0; have c1 := hb1.cell 1; have c2 := hb1.cell 2; have HB1 := hid hb1; clear h1 hb1)
        | (go_at_call 136; refine (r_valid (r : Int) (dd : Int) (kd : Int) _).mono ?_; rintro e w2 ⟨rfl, K2⟩; rw [HV.out]; have HK2 := hid (HK1.out.chain K2); have hb2 := HB1.out.kp K2 (by simp); have d0 := hb2.cell 0; have d1 := hb2.cell 1; have d2 := hb2.cell 2; have HB2 := hid hb2; clear K2 hb2)
        | (go_at_call 137; refine (d_fits (HT.out.kp0 HK2.out) (t : Int) HW64.out HV.out 0 0 HHB.out).mono ?_; rintro e w3 ⟨rfl, K3⟩; rw [HRE.out]; have HK3 := hid (HK2.out.chain K3); have HB3 := hid (HB2.out.kp K3 (by simp)); have hc3 := (HT.out.kp0 HK3.out).c3; have hf3 := (HT.out.kp0 HK3.out).g_fr 3; clear K3))
      have hwb : (m.born : Int) + 1 = ((m.born + 1 : Nat) : Int) := by omega
      rw [hwb]
      have HT4 : Hid (DR (w3.setCell ⟨d.g, 3, none⟩ (.int .i64 ((m.born + 1 : Nat) : Int))) d (q + 1) m.bear) := (HT.out.kp0 HK3.out).setBorn
      have HK4 : Hid (Kp [d.g] w (w3.setCell ⟨d.g, 3, none⟩ (.int .i64 ((m.born + 1 : Nat) : Int)))) := HK3.out.chain0 (Kp.cell w3 ⟨d.g, 3, none⟩ _)
      have HB4 := hid (HB3.out.kp (Kp.cell w3 ⟨d.g, 3, none⟩ (.int .i64 ((m.born + 1 : Nat) : Int))) HNG.out)
      generalize w3.setCell ⟨d.g, 3, none⟩ (.int .i64 ((m.born + 1 : Nat) : Int)) = w4 at HT4 HK4 HB4 ⊢
      have HSZ4 : Hid (w.heap.size ≤ w4.heap.size) := HK4.out.size
      have z3 : w4.cell? ⟨d.g, 3, none⟩ = some (.int .i64 ((m.born + 1 : Nat) : Int)) := HT4.out.c3
      have z0 : w4.cell? ⟨w.heap.size, 0, none⟩ = some (.int .i64 (r : Int)) := HB4.out.cell 0
      have z1 : w4.cell? ⟨w.heap.size, 1, none⟩ = some (.int .i64 (dd : Int)) := HB4.out.cell 1
      have z2 : w4.cell? ⟨w.heap.size, 2, none⟩ = some (.int .i64 (kd : Int)) := HB4.out.cell 2
      clear hwb
      go_wp2_with (fail)
      refine wp_region_held_drew (S := fun W => W.cell? ⟨d.g, 3, none⟩ = some (.int .i64 ((m.born + 1 : Nat) : Int)) ∧ W.cell? ⟨w.heap.size, 0, none⟩ = some (.int .i64 (r : Int)) ∧ W.cell? ⟨w.heap.size, 1, none⟩ = some (.int .i64 (dd : Int)) ∧ W.cell? ⟨w.heap.size, 2, none⟩ = some (.int .i64 (kd : Int))) (by kernel_rfl) ?_ (fun hHeld => ?_)
      · exact ⟨kp_cellD (Kp.draw _ 1) z3, kp_cellD (Kp.draw _ 1) z0, kp_cellD (Kp.draw _ 1) z1, kp_cellD (Kp.draw _ 1) z2⟩
      refine wpAnyH_take (i := 0) (v := _) rfl (by kernel_rfl) (by kernel_rfl) (by kernel_rfl) (fun _ _ _ h => h) (Or.inl ⟨by rfl, by (intro wz hSw; go_simp; try with_reducible rfl)⟩) (by assumption) ?_
      refine wpAnyH_take (i := 1) (v := _) rfl (by kernel_rfl) (by kernel_rfl) (by kernel_rfl) (fun _ _ _ h => h) (Or.inl ⟨by rfl, by (intro wz hSw; go_simp; try with_reducible rfl)⟩) (by assumption) ?_
      refine wpAnyH_take (i := 2) (v := _) rfl (by kernel_rfl) (by kernel_rfl) (by kernel_rfl) (fun _ _ _ h => h) (Or.inl ⟨by rfl, by (intro wz hSw; go_simp; try with_reducible rfl)⟩) (by assumption) ?_
      refine wpAnyH_take (i := 3) (v := _) rfl (by kernel_rfl) (by kernel_rfl) (by kernel_rfl) (fun _ _ _ h => h) (Or.inl ⟨by rfl, by (intro wz hSw; go_simp; try with_reducible rfl)⟩) (by assumption) ?_
      refine wpAnyH_take (i := 4) (v := _) rfl (by kernel_rfl) (by kernel_rfl) (by kernel_rfl) (fun _ _ _ h => h) (Or.inl ⟨by rfl, by (intro wz hSw; go_simp; try with_reducible rfl)⟩) (by assumption) ?_
      refine wpAnyH_take (i := 5) (v := _) rfl (by kernel_rfl) (by kernel_rfl) (by kernel_rfl) (fun _ _ _ h => h) (Or.inl ⟨by rfl, by (intro wz hSw; have hcj := hSw.1; go_simp; try with_reducible rfl)⟩) (by assumption) ?_
      refine wpAnyH_take (i := 6) (v := _) rfl (by kernel_rfl) (by kernel_rfl) (by kernel_rfl) (fun _ _ _ h => h) (Or.inl ⟨by rfl, by (intro wz hSw; have k0 := hSw.2.1; have k1 := hSw.2.2.1; have k2 := hSw.2.2.2; go_simp; try with_reducible rfl)⟩) (by assumption) ?_
      refine wpAnyH_take (i := 7) (v := _) rfl (by kernel_rfl) (by kernel_rfl) (by kernel_rfl) (fun _ _ _ h => h) (Or.inl ⟨by rfl, by (intro wz hSw; go_simp; try with_reducible rfl)⟩) (by assumption) ?_
      refine wpAnyH_take (i := 8) (v := _) rfl (by kernel_rfl) (by kernel_rfl) (by kernel_rfl) (fun _ _ _ h => h) (Or.inl ⟨by rfl, by (intro wz hSw; have k0 := hSw.2.1; have k1 := hSw.2.2.1; have k2 := hSw.2.2.2; go_simp; try with_reducible rfl)⟩) (by assumption) ?_
      refine wpAnyH_take (i := 10) (v := _) rfl (by kernel_rfl) (by kernel_rfl) (by kernel_rfl) (fun _ _ _ h => h) (Or.inl ⟨by rfl, by (intro wz hSw; go_simp; try with_reducible rfl)⟩) (by assumption) ?_
      refine wpAnyH_take (i := 11) (v := _) rfl (by kernel_rfl) (by kernel_rfl) (by kernel_rfl) (fun _ _ _ h => h) (Or.inl ⟨by rfl, by (intro wz hSw; have k0 := hSw.2.1; have k1 := hSw.2.2.1; have k2 := hSw.2.2.2; go_simp; try with_reducible rfl)⟩) (by assumption) ?_
      refine wpAnyH_ready (rs := [9, 12]) (by kernel_rfl) (by simp) ?_
      refine (AllReadyH.cons rfl (fun K hK => ?_) (AllReadyH.cons rfl (fun K hK => ?_) AllReadyH.nil))
      · go_simp
        refine hK.out _ _ ?_ (fun hHeld => ?_)
        · exact ⟨cell_kp (Kp.new _ _) hHeld.1, cell_kp (Kp.new _ _) hHeld.2.1, cell_kp (Kp.new _ _) hHeld.2.2.1, cell_kp (Kp.new _ _) hHeld.2.2.2⟩
        clear hK K
        refine wpAnyH_ready (rs := [12]) (by kernel_rfl) (by simp) ?_
        refine AllReadyH.cons rfl (fun K hK => ?_) AllReadyH.nil
        go_simp
        refine hK.out _ _ ?_ (fun hHeld => ?_)
        · exact ⟨cell_kp (Kp.new _ _) hHeld.1, cell_kp (Kp.new _ _) hHeld.2.1, cell_kp (Kp.new _ _) hHeld.2.2.1, cell_kp (Kp.new _ _) hHeld.2.2.2⟩
        clear hK K
        refine wpAnyH_take (i := 13) (v := _) rfl (by kernel_rfl) (by kernel_rfl) (by kernel_rfl) (fun _ _ _ h => h) (Or.inl ⟨by rfl, by (intro wz hSw; go_simp; try with_reducible rfl)⟩) (by assumption) ?_
        refine wpAnyH_ready (rs := [14]) (by kernel_rfl) (by simp) ?_
        refine AllReadyH.cons rfl (fun K hK => ?_) AllReadyH.nil
        go_simp
        have hk6 : Kp [] w4 ((w4.drew.alloc (.cells (madeCells #[.int .i64 0] r) 3)).alloc (.cells (madeCells #[.int .i64 0] dd) 3)) := ((Kp.draw w4 1).chain (Kp.new _ (.cells (madeCells #[.int .i64 0] r) 3))).chain (Kp.new _ (.cells (madeCells #[.int .i64 0] dd) 3))
        have HK6 := hid hk6
        have HRB1 : Hid (w.heap.size ≤ w4.heap.size) := (by have := HSZ4.out; show _ ≤ _; omega)
        have HDB1 : Hid (w.heap.size ≤ (w4.heap.size + 1)) := (by have := HSZ4.out; show _ ≤ _; omega)
        obtain ⟨hnew, hpm⟩ := newDO_new (W := ((w4.drew.alloc (.cells (madeCells #[.int .i64 0] r) 3)).alloc (.cells (madeCells #[.int .i64 0] dd) 3))) (rb := w4.heap.size) (db := (w4.heap.size + 1)) HT.out HV.out HRE.out (by first | exact ((Blk.new w4.drew 3 (madeCells #[.int .i64 0] r)).kp (Kp.new _ (.cells (madeCells #[.int .i64 0] dd) 3)) (by simp)) | (rw [← made_z]; exact ((Blk.new w4.drew 3 (madeCells #[.int .i64 0] r)).kp (Kp.new _ (.cells (madeCells #[.int .i64 0] dd) 3)) (by simp)))) (by first | exact (blk_at (by simp) (Blk.new (w4.drew.alloc (.cells (madeCells #[.int .i64 0] r) 3)) 3 (madeCells #[.int .i64 0] dd))) | (rw [← made_z]; exact (blk_at (by simp) (Blk.new (w4.drew.alloc (.cells (madeCells #[.int .i64 0] r) 3)) 3 (madeCells #[.int .i64 0] dd))))) HRB1.out HDB1.out (by simp)
        refine (d_put (x := m.newDO t r dd kd w4.heap.size (w4.heap.size + 1)) (HT4.out.kp0 hk6) hnew).mono ?_
        rintro e w7 ⟨rfl, k7, v7, R7, K7, N7⟩
        have HC7 : Hid (DChg w d (q + 1) (m.placeM (t : Int) (r : Int) (dd : Int) (kd : Int)) w7) := (by rw [← hpm]; exact put_chg HT.out ((HK4.out.chain hk6).trans K7 (fun x hx => .inl hx) (fun x hx => .inl hx)) R7 (fun y hy => Nat.le_trans (Nat.le_trans HSZ4.out hk6.size) (N7 y hy)) HRB1.out HDB1.out)
        have hb7 := R7.c3
        have HS7 : Hid (w7.cell? ⟨w.heap.size, 0, none⟩ = some (.int .i64 (r : Int)) ∧ w7.cell? ⟨w.heap.size, 1, none⟩ = some (.int .i64 (dd : Int)) ∧ w7.cell? ⟨w.heap.size, 2, none⟩ = some (.int .i64 (kd : Int))) := ⟨cell_kps K7 hHeld.2.1 HNG.out, cell_kps K7 hHeld.2.2.1 HNG.out, cell_kps K7 hHeld.2.2.2 HNG.out⟩
        have HB7 := hid hb7
        clear hnew hpm R7 K7 N7 hk6 HK6 hb7
        try go_wp2_with fail
        refine hK.out _ _ ?_ (fun hHeld => ?_)
        · exact ⟨HB7.out, HS7.out.1, HS7.out.2.1, HS7.out.2.2⟩
        clear hK K
        refine wpAnyH_done (by kernel_rfl) ?_ _
        clear hHeld
        have hb7 := HB7.out
        have hbb : (m.bear.add t (m.nob r dd kd)).born = m.born + 1 := rfl
        go_wp2
        go_ret2
        rw [HPV.out.1, HPV.out.2]
        exact ⟨rfl, HC7.out⟩
      · go_simp
        refine hK.out _ _ ?_ (fun hHeld => ?_)
        · exact ⟨cell_kp (Kp.new _ _) hHeld.1, cell_kp (Kp.new _ _) hHeld.2.1, cell_kp (Kp.new _ _) hHeld.2.2.1, cell_kp (Kp.new _ _) hHeld.2.2.2⟩
        clear hK K
        refine wpAnyH_ready (rs := [9]) (by kernel_rfl) (by simp) ?_
        refine AllReadyH.cons rfl (fun K hK => ?_) AllReadyH.nil
        go_simp
        refine hK.out _ _ ?_ (fun hHeld => ?_)
        · exact ⟨cell_kp (Kp.new _ _) hHeld.1, cell_kp (Kp.new _ _) hHeld.2.1, cell_kp (Kp.new _ _) hHeld.2.2.1, cell_kp (Kp.new _ _) hHeld.2.2.2⟩
        clear hK K
        refine wpAnyH_take (i := 13) (v := _) rfl (by kernel_rfl) (by kernel_rfl) (by kernel_rfl) (fun _ _ _ h => h) (Or.inl ⟨by rfl, by (intro wz hSw; go_simp; try with_reducible rfl)⟩) (by assumption) ?_
        refine wpAnyH_ready (rs := [14]) (by kernel_rfl) (by simp) ?_
        refine AllReadyH.cons rfl (fun K hK => ?_) AllReadyH.nil
        go_simp
        have hk6 : Kp [] w4 ((w4.drew.alloc (.cells (madeCells #[.int .i64 0] dd) 3)).alloc (.cells (madeCells #[.int .i64 0] r) 3)) := ((Kp.draw w4 1).chain (Kp.new _ (.cells (madeCells #[.int .i64 0] dd) 3))).chain (Kp.new _ (.cells (madeCells #[.int .i64 0] r) 3))
        have HK6 := hid hk6
        have HRB1 : Hid (w.heap.size ≤ (w4.heap.size + 1)) := (by have := HSZ4.out; show _ ≤ _; omega)
        have HDB1 : Hid (w.heap.size ≤ w4.heap.size) := (by have := HSZ4.out; show _ ≤ _; omega)
        obtain ⟨hnew, hpm⟩ := newDO_new (W := ((w4.drew.alloc (.cells (madeCells #[.int .i64 0] dd) 3)).alloc (.cells (madeCells #[.int .i64 0] r) 3))) (rb := (w4.heap.size + 1)) (db := w4.heap.size) HT.out HV.out HRE.out (by first | exact (blk_at (by simp) (Blk.new (w4.drew.alloc (.cells (madeCells #[.int .i64 0] dd) 3)) 3 (madeCells #[.int .i64 0] r))) | (rw [← made_z]; exact (blk_at (by simp) (Blk.new (w4.drew.alloc (.cells (madeCells #[.int .i64 0] dd) 3)) 3 (madeCells #[.int .i64 0] r))))) (by first | exact ((Blk.new w4.drew 3 (madeCells #[.int .i64 0] dd)).kp (Kp.new _ (.cells (madeCells #[.int .i64 0] r) 3)) (by simp)) | (rw [← made_z]; exact ((Blk.new w4.drew 3 (madeCells #[.int .i64 0] dd)).kp (Kp.new _ (.cells (madeCells #[.int .i64 0] r) 3)) (by simp)))) HRB1.out HDB1.out (by simp)
        refine (d_put (x := m.newDO t r dd kd (w4.heap.size + 1) w4.heap.size) (HT4.out.kp0 hk6) hnew).mono ?_
        rintro e w7 ⟨rfl, k7, v7, R7, K7, N7⟩
        have HC7 : Hid (DChg w d (q + 1) (m.placeM (t : Int) (r : Int) (dd : Int) (kd : Int)) w7) := (by rw [← hpm]; exact put_chg HT.out ((HK4.out.chain hk6).trans K7 (fun x hx => .inl hx) (fun x hx => .inl hx)) R7 (fun y hy => Nat.le_trans (Nat.le_trans HSZ4.out hk6.size) (N7 y hy)) HRB1.out HDB1.out)
        have hb7 := R7.c3
        have HS7 : Hid (w7.cell? ⟨w.heap.size, 0, none⟩ = some (.int .i64 (r : Int)) ∧ w7.cell? ⟨w.heap.size, 1, none⟩ = some (.int .i64 (dd : Int)) ∧ w7.cell? ⟨w.heap.size, 2, none⟩ = some (.int .i64 (kd : Int))) := ⟨cell_kps K7 hHeld.2.1 HNG.out, cell_kps K7 hHeld.2.2.1 HNG.out, cell_kps K7 hHeld.2.2.2 HNG.out⟩
        have HB7 := hid hb7
        clear hnew hpm R7 K7 N7 hk6 HK6 hb7
        try go_wp2_with fail
        refine hK.out _ _ ?_ (fun hHeld => ?_)
        · exact ⟨HB7.out, HS7.out.1, HS7.out.2.1, HS7.out.2.2⟩
        clear hK K
        refine wpAnyH_done (by kernel_rfl) ?_ _
        clear hHeld
        have hb7 := HB7.out
        have hbb : (m.bear.add t (m.nob r dd kd)).born = m.born + 1 := rfl
        go_wp2
        go_ret2
        rw [HPV.out.1, HPV.out.2]
        exact ⟨rfl, HC7.out⟩
    · have e1 : m.placeV a (r : Int) (dd : Int) (kd : Int) = 0 := by unfold HM.placeV; rw [if_neg (by rw [hpE]; exact h0)]
      have e2 : m.placeM a (r : Int) (dd : Int) (kd : Int) = m := by unfold HM.placeM; rw [if_neg (by rw [hpE]; exact h0)]
      rw [e1, e2, hpE]
      have HW64 := hid ha
      have HH0 := hid h0
      have HTW := hid (fun w3 (K3 : Kp [] w w3) => d_fits (HT.out.kp0 K3) a ha hv 0 0 HHB.out)
      generalize roomE m a (wdN r dd) 0 = e0 at h0 HTW HH0 ⊢
      have e9 : (e0 == 0) = false := beq_eq_false_iff_ne.2 h0
      have e8 : (e0 != 0) = true := bne_iff_ne.2 h0
      clear T hbb hv hpE h0 ha e1 e2
      go_enter Tryz.func66, Tryz.ntmps66
      go_wp2_with (first
        | (go_at_call 60; refine (d_made (HT.out.kp0 HK0.out)).mono ?_; rintro e w1 ⟨rfl, h1⟩; have HK1 := hid (HK0.out.chain (Kp.of_drewN h1)); have hb1 := HB0.out.kp (Kp.of_drewN h1) (by simp); have c0 := hb1.cell 0; have c1 := hb1.cell 1; have c2 := hb1.cell 2; have HB1 := hid hb1; clear h1 hb1)
        | (go_at_call 136; refine (r_valid (r : Int) (dd : Int) (kd : Int) _).mono ?_; rintro e w2 ⟨rfl, K2⟩; rw [HV.out]; have HK2 := hid (HK1.out.chain K2); have hb2 := HB1.out.kp K2 (by simp); have d0 := hb2.cell 0; have d1 := hb2.cell 1; have d2 := hb2.cell 2; clear K2 hb2)
        | (go_at_call 137; refine (HTW.out _ HK2.out).mono ?_; rintro e w3 ⟨rfl, K3⟩; have HK3 := hid (HK2.out.chain K3); clear K3))
      go_ret2
      exact ⟨rfl, (DChg.same HT.out HK3.out).mono (by omega)⟩
end
end Go.Proofs.YtkkmlllajfafcaaGreat
/-
  What the document's heap's Move leaves. Conditions: those that stand in each theorem.
-/
namespace Go.Proofs.YtkkmlllajfafcaaGreat
set_option linter.unusedVariables false
set_option linter.unusedSimpArgs false
open Go.RowKit Go.Deep Go.Maps

theorem blk8 {W : World} {g : Nat} {x : DO} {e : TypeId} (h : Blk W g e #[.int .i64 0, .int .i64 0, .int .i64 0, .int .i64 0, .int .i64 0, .slice none 0 0, .slice none 0 0, .bool false]) : Blk (W.setCells g 0 (#[.int .i64 (x.a : Int), .int .i64 (x.o.id : Int), .int .i64 (x.o.refs : Int), .int .i64 (x.o.data : Int), .int .i64 (x.o.kind : Int), .slice (some ⟨x.rb, 0, none⟩) x.o.refs x.rc, .slice (some ⟨x.db, 0, none⟩) x.o.data x.dc, .bool x.o.pin] : Array Value).toList) g e #[.int .i64 (x.a : Int), .int .i64 (x.o.id : Int), .int .i64 (x.o.refs : Int), .int .i64 (x.o.data : Int), .int .i64 (x.o.kind : Int), .slice (some ⟨x.rb, 0, none⟩) x.o.refs x.rc, .slice (some ⟨x.db, 0, none⟩) x.o.data x.dc, .bool x.o.pin] := by
  have h8 := ((((((((h.set_ 0 (.int .i64 (x.a : Int))).set_ 1 (.int .i64 (x.o.id : Int))).set_ 2 (.int .i64 (x.o.refs : Int))).set_ 3 (.int .i64 (x.o.data : Int))).set_ 4 (.int .i64 (x.o.kind : Int))).set_ 5 (.slice (some ⟨x.rb, 0, none⟩) x.o.refs x.rc)).set_ 6 (.slice (some ⟨x.db, 0, none⟩) x.o.data x.dc)).set_ 7 (.bool x.o.pin))
  simp only [World.setCells, Nat.zero_add, Nat.reduceAdd]
  simpa using h8
theorem infoMove : (Tryz.prog.info? 150).map (fun i => (i.zero, i.size, i.bytes)) = some (some (.agg #[.int .i64 0, .int .i64 0]), 2, 16) := by kernel_rfl
theorem mv_new (w : World) (i z : Int) (n : Nat) : ∀ (j : Nat) (u : Value), ([.int .i64 i, .int .i64 z] : List Value)[j]? = some u → ((w.drewN n).alloc (.cells #[.int .i64 i, .int .i64 z] 150)).cell? ((⟨w.heap.size, 0, none⟩ : Addr).add j) = some u := by
  intro j u hu
  exact blk_read (xs := [.int .i64 i, .int .i64 z]) (sp := []) (Blk.new (w.drewN n) 150 _) j u hu
/-- The moves that do not begin at an address. -/
def mvs (k : Nat) (l : List (Nat × Nat)) : List (Nat × Nat) := l.filter fun p => decide (p.1 ≠ k)
theorem mvs_take {k : Nat} {l : List (Nat × Nat)} {i : Nat} {p : Nat × Nat} (h : l[i]? = some p) : mvs k (l.take (i + 1)) = mvs k (l.take i) ++ (if p.1 = k then [] else [p]) := by
  unfold mvs
  rw [List.take_add_one, h, List.filter_append]
  by_cases e : p.1 = k
  · simp [e]
  · simp [e]
theorem mvs_le (k : Nat) (l : List (Nat × Nat)) (i : Nat) : (mvs k (l.take i)).length ≤ l.length := by
  have h1 := List.length_filter_le (fun p : Nat × Nat => decide (p.1 ≠ k)) (l.take i)
  rw [List.length_take] at h1
  unfold mvs
  omega
theorem mvs_len {k : Nat} : ∀ {l : List (Nat × Nat)}, (l.map Prod.fst).Nodup → ((∃ t, (k, t) ∈ l) → (mvs k l).length + 1 = l.length) ∧ ((¬ ∃ t, (k, t) ∈ l) → (mvs k l).length = l.length)
  | [], _ => ⟨by rintro ⟨t, ht⟩; (cases ht), fun _ => rfl⟩
  | p :: l, hnd => by
    rw [List.map_cons, List.nodup_cons] at hnd
    have ih := mvs_len (k := k) hnd.2
    by_cases e : p.1 = k
    · have h0 : ¬ ∃ t, (k, t) ∈ l := by
        rintro ⟨t, ht⟩
        exact hnd.1 (List.mem_map.2 ⟨_, ht, e.symm⟩)
      have h1 := ih.2 h0
      have : mvs k (p :: l) = mvs k l := by simp [mvs, e]
      rw [this, List.length_cons]
      exact ⟨fun _ => by omega, fun h => absurd ⟨p.2, by rw [← e]; simp⟩ h⟩
    · have h0 : (∃ t, (k, t) ∈ p :: l) ↔ ∃ t, (k, t) ∈ l := by
        constructor
        · rintro ⟨t, ht⟩
          rcases List.mem_cons.1 ht with h | h
          · exact absurd (by rw [← h]) e
          · exact ⟨t, h⟩
        · rintro ⟨t, ht⟩
          exact ⟨t, List.mem_cons_of_mem _ ht⟩
      have : mvs k (p :: l) = p :: mvs k l := by simp [mvs, e]
      rw [this, List.length_cons, List.length_cons]
      exact ⟨fun h => by have := ih.1 (h0.1 h); omega, fun h => by have := ih.2 (fun h2 => h (h0.2 h2)); omega⟩
section
variable {w w' W w4 w7 : World} {d : DB} {q q' : Nat} {m m' : HM}
theorem Fws.move {l : List (Nat × Nat)} (F : Fws l m) (k t : Nat) : Fws (mvs k l ++ [(k, t)]) (m.fwd k t) := by
  have hm : ∀ p, p ∈ mvs k l ↔ p ∈ l ∧ p.1 ≠ k := fun p => by simp [mvs]
  refine ⟨?_, fun f t' => ?_, ?_⟩
  · rw [List.map_append, List.nodup_append]
    refine ⟨(F.nd.sublist ((List.filter_sublist).map _)), by simp, fun a ha b hb => ?_⟩
    obtain ⟨p, hp, rfl⟩ := List.mem_map.1 ha
    simp at hb
    rw [hb]
    exact ((hm p).1 hp).2
  · show (if f = k then some t else m.fw f) = some t' ↔ _
    rw [List.mem_append, hm, List.mem_singleton]
    by_cases e : f = k
    · rw [if_pos e]
      constructor
      · intro h; cases h; exact .inr (by rw [e])
      · rintro (⟨_, h⟩ | h)
        · exact absurd e h
        · injection h with _ h; rw [h]
    · rw [if_neg e, F.mem]
      constructor
      · exact fun h => .inl ⟨h, e⟩
      · rintro (⟨h, _⟩ | h)
        · exact h
        · injection h with h _; exact absurd h e
  · have h1 := mvs_len (k := k) F.nd
    have h2 := F.len
    rw [List.length_append, List.length_singleton]
    show _ = if (m.fw k).isSome then m.fn else m.fn + 1
    by_cases e : ∃ t, (k, t) ∈ l
    · have h1 := h1.1 e
      obtain ⟨t0, ht⟩ := e
      rw [(F.mem _ _).2 ht, if_pos (show (some t0).isSome = true from rfl)]
      omega
    · have h1 := h1.2 e
      rcases hf : m.fw k with _ | t0
      · simp; omega
      · exact absurd ⟨t0, (F.mem _ _).1 hf⟩ e
theorem DR.setFw (T : DR w d q m) {k t n : Nat} {v : Value} (K : Kp [] w W) (own : W.ownsRow w.heap.size 150 2 v n (rcells (mvs k d.fs ++ [(k, t)]))) (hn : n = (mvs k d.fs ++ [(k, t)]).length) :
    DR (W.setCell ⟨d.g, 2, none⟩ v) { d with fv := v, fs := mvs k d.fs ++ [(k, t)] } (q + 1) (m.fwd k t) ∧ Kp [d.g] w (W.setCell ⟨d.g, 2, none⟩ v) ∧ ∀ y, v.ownBlock = some y → w.heap.size ≤ y := by
  subst hn
  have hlt := T.lt
  have hge := own_geD own
  have kk := Kp.cell W ⟨d.g, 2, none⟩ v
  have TW := T.kp0 K
  obtain ⟨n1, n2, n3, n4, n5, n6⟩ := T.nd'
  obtain ⟨sp, h1, h2, h3, B⟩ := TW.B
  have hv : ∀ y, v.ownBlock = some y → y ∉ d.all := fun y hy hm => by have := hlt y hm; have := hge y hy; omega
  refine ⟨⟨T.inv.fwd k t, ⟨T.lst.up, T.lst.mem⟩, T.fws.move k t, ?_, ?_, Nat.le_succ_of_le T.bq, TW.G.set_ 2 _, ⟨sp, h1, h2, h3, B.kp kk (by simpa using n1.symm)⟩, own_kpS TW.O kk (fun y hy => by simpa using (n2 y hy).1), own_base (own_kpS own kk (fun y hy => ?_)) (Nat.zero_le _), fun x hx => ?_⟩, K.chain0 kk, hge⟩
  · have := T.nd
    simp only [DB.all, List.nodup_cons, List.mem_cons, List.mem_append, Option.mem_toList, not_or, List.nodup_append] at this hv ⊢
    obtain ⟨⟨a1, a2, a3, a4⟩, ⟨a5, a6, a7⟩, a8, ⟨a9, a10, a11⟩, a12⟩ := this
    have g0 := fun y hy => hv y hy
    refine ⟨⟨a1, a2, fun hy => (hv _ hy).1 rfl, a4⟩, ⟨a5, fun hy => (hv _ hy).2.1 rfl, a7⟩, a8, ⟨?_, a10, fun y hy z hz e => ?_⟩, fun y hy z hz => ?_⟩
    · rcases v.ownBlock with _ | y <;> simp
    · exact (hv y hy).2.2.2.2 (e ▸ hz)
    · rcases hz with hz | hz
      · exact fun e => (hv z hz).2.2.1 (e ▸ hy)
      · exact a12 y hy z (.inr hz)
  · have h1 := mvs_le k d.fs d.fs.length
    rw [List.take_length] at h1
    have := T.fq
    simp only [List.length_append, List.length_singleton]
    omega
  · have := hv y hy
    simp only [List.mem_singleton]
    rintro rfl
    exact this (by simp [DB.all])
  · have h := TW.R x hx
    have e1 : x.rb ≠ d.g := fun e => n4 (rowsOf_mem.2 ⟨x, hx, .inl e.symm⟩)
    have e2 : x.db ≠ d.g := fun e => n4 (rowsOf_mem.2 ⟨x, hx, .inr e.symm⟩)
    exact ⟨h.1.imp fun sp B => B.kp kk (by simpa using e1), h.2.imp fun sp B => B.kp kk (by simpa using e2)⟩
/-- The object moved may be put back. -/
theorem move_new (T : DR w d q m) {i t : Nat} {x : DO} (hi : d.os[i]? = some x) (he : roomE m (t : Int) x.o.wd x.a = 0) {S : List Nat} {v' : Value} (K : Kp S w W) (hS : ∀ y ∈ S, y = d.g ∨ w.heap.size ≤ y) (hv : ∀ y, v'.ownBlock = some y → w.heap.size ≤ y) :
    New1 W { d with ov := v', os := d.os.take i ++ d.os.drop (i + 1) } (m.del x.a) { x with a := t } := by
  obtain ⟨k, hk, ev, hlt, hs, htk⟩ := roomE_zero he
  obtain rfl : t = k := by omega
  have ho := T.lst.ob hi
  obtain ⟨hf, J⟩ := move_model T.inv ho ev hs htk
  have hok := T.inv.ok _ _ ho
  have hno : (m.del x.a).ob t = none := by
    rcases hz : (m.del x.a).ob t with _ | o
    · rfl
    · have := ((T.inv.del x.a).ok _ _ hz).wd_bd
      exact absurd ⟨t, o, hz, Nat.le_refl _, by omega⟩ (hf t (Nat.le_refl _) (by have := hok.wd_bd; omega))
  have hxm : x ∈ d.os := List.mem_of_getElem? hi
  obtain ⟨r1, r2⟩ := DR.row_mem hxm
  have hlt := T.lt
  obtain ⟨n1, n2, n3, n4, n5, n6⟩ := T.nd'
  have hrn : ∀ y, y = x.rb ∨ y = x.db → y ≠ d.g ∧ y < w.heap.size := fun y hy => by
    refine ⟨fun e => n4 (rowsOf_mem.2 ⟨x, hxm, by rw [← e]; exact hy⟩), ?_⟩
    rcases hy with rfl | rfl
    · exact hlt _ r1
    · exact hlt _ r2
  have hSn : ∀ y, y = x.rb ∨ y = x.db → y ∉ S := fun y hy hm => by
    have := hrn y hy
    rcases hS y hm with h | h
    · exact this.1 h
    · omega
  have hcut : ∀ y, y = x.rb ∨ y = x.db → y ∉ rowsOf (d.os.take i ++ d.os.drop (i + 1)) := fun y hy hm => by
    obtain ⟨z, hz, e⟩ := rowsOf_mem.1 hm
    obtain ⟨j, h1, h2⟩ := List.mem_eraseIdx_iff_getElem?.1 (show z ∈ d.os.eraseIdx i by rw [List.eraseIdx_eq_take_drop_succ]; exact hz)
    have := T.rows_ne hi h2 (fun e => h1 e.symm)
    rcases hy with rfl | rfl <;> rcases e with e | e
    · exact this.1 e
    · exact this.2.1 e
    · exact this.2.2.1 e
    · exact this.2.2.2 e
  have hall : ∀ y, y = x.rb ∨ y = x.db → y ∉ ({ d with ov := v', os := d.os.take i ++ d.os.drop (i + 1) } : DB).all := fun y hy hm => by
    have h0 := hrn y hy
    simp only [DB.all, List.mem_cons, List.mem_append, Option.mem_toList] at hm
    have hro : y ∈ rowsOf d.os := rowsOf_mem.2 ⟨x, hxm, hy⟩
    rcases hm with h | h | h | h | h
    · exact h0.1 h
    · exact n5 (h ▸ hro)
    · have := hv y h; omega
    · exact (n3 y h).2.2.1 hro
    · exact hcut y hy (by rw [rowsOf_append]; exact List.mem_append.2 (by simpa [rowsOf_append] using h))
  refine ⟨hno, ?_, (T.R x hxm).1.imp fun sp B => B.kp K (hSn _ (.inl rfl)), (T.R x hxm).2.imp fun sp B => B.kp K (hSn _ (.inr rfl)), hall _ (.inl rfl), hall _ (.inr rfl), (show x.rb ≠ x.db from T.row_ne hi)⟩
  show ((m.del x.a).add t x.o).Inv
  have ha := J.put (a := t) (o := x.o.setPin false) (o' := x.o) (by simp [HM.add]) hok rfl rfl
  have e : ((m.del x.a).add t (x.o.setPin false)).add t x.o = (m.del x.a).add t x.o := by
    unfold HM.add
    congr 1
    funext y
    by_cases hy : y = t
    · simp [hy]
    · simp [hy]
  rw [e] at ha
  exact ha
theorem move_all {i k : Nat} {x : DO} (hi : d.os[i]? = some x) {t : Nat} {v v' : Value} {n : Nat} {fs' : List (Nat × Nat)} (h1 : ∀ y, v.ownBlock = some y → n ≤ y) (h2 : ∀ y, v'.ownBlock = some y → n ≤ y) :
    ∀ y ∈ ({ d with ov := v, os := (d.os.take i ++ d.os.drop (i + 1)).take k ++ { x with a := t } :: (d.os.take i ++ d.os.drop (i + 1)).drop k, fv := v', fs := fs' } : DB).all, y ∈ d.all ∨ n ≤ y := by
  intro y hm
  simp only [DB.all, List.mem_cons, List.mem_append, Option.mem_toList] at hm ⊢
  rcases hm with h | h | h | h | h
  · exact .inl (.inl h)
  · exact .inl (.inr (.inl h))
  · exact .inr (h1 y h)
  · exact .inr (h2 y h)
  · obtain ⟨z, hz, e⟩ := rowsOf_mem.1 h
    refine .inl (.inr (.inr (.inr (.inr (rowsOf_mem.2 ?_)))))
    rcases List.mem_append.1 hz with hz | hz
    · have := List.mem_of_mem_take hz
      rcases List.mem_append.1 this with h | h
      · exact ⟨z, List.mem_of_mem_take h, e⟩
      · exact ⟨z, List.mem_of_mem_drop h, e⟩
    · rcases List.mem_cons.1 hz with rfl | hz
      · exact ⟨x, List.mem_of_getElem? hi, e⟩
      · have := List.mem_of_mem_drop hz
        rcases List.mem_append.1 this with h | h
        · exact ⟨z, List.mem_of_mem_take h, e⟩
        · exact ⟨z, List.mem_of_mem_drop h, e⟩
end
end Go.Proofs.YtkkmlllajfafcaaGreat
/-
  The contract of the document's heap's Move. Conditions: those that stand in each theorem.
-/
namespace Go.Proofs.YtkkmlllajfafcaaGreat
set_option linter.unusedVariables false
set_option linter.unusedSimpArgs false
open Go.RowKit Go.Deep Go.Maps

theorem cut_all {d : DB} {i : Nat} {x : DO} {v' : Value} (hi : d.os[i]? = some x) {y : Nat} (hy : y ∈ ({ d with ov := v', os := d.os.take i ++ d.os.drop (i + 1) } : DB).all) : y ∈ d.all ∨ v'.ownBlock = some y := by
  simp only [DB.all, List.mem_cons, List.mem_append, Option.mem_toList] at hy ⊢
  rcases hy with h | h | h | h | h
  · exact .inl (.inl h)
  · exact .inl (.inr (.inl h))
  · exact .inr h
  · exact .inl (.inr (.inr (.inr (.inl h))))
  · obtain ⟨z, hz, e⟩ := rowsOf_mem.1 h
    refine .inl (.inr (.inr (.inr (.inr (rowsOf_mem.2 ⟨z, ?_, e⟩)))))
    rcases List.mem_append.1 hz with h | h
    · exact List.mem_of_mem_take h
    · exact List.mem_of_mem_drop h
theorem cut_box {w : World} {d : DB} {q : Nat} {m : HM} {i gb : Nat} {x : DO} {v' : Value} (T : DR w d q m) (hi : d.os[i]? = some x) (hb : w.heap.size ≤ gb) (hn : ∀ y, v'.ownBlock = some y → y ≠ gb) : ∀ y ∈ ({ d with ov := v', os := d.os.take i ++ d.os.drop (i + 1) } : DB).all, y ∉ [gb] := by
  intro y hy hm
  rw [List.mem_singleton] at hm
  rcases cut_all hi hy with h1 | h1
  · have := T.lt y h1
    omega
  · exact hn y h1 hm
theorem mvs_end {B : Nat} {w w1 : World} {rs : List (Nat × Nat)} {i z n k : Nat} {v v' : Value} (hB : B ≤ w.heap.size) (hk : rs.length = k) (own : w.ownsRow B 150 2 v k (rcells rs)) (own' : w1.ownsRow B 150 2 v' (k + 1) (rcells rs ++ [.int .i64 (i : Int), .int .i64 (z : Int)]))
    (g : ((w.drewN n).alloc (.cells #[.int .i64 (i : Int), .int .i64 (z : Int)] 150)).grownBy w1 v.ownBlock) : w1.ownsRow B 150 2 v' (rs ++ [(i, z)]).length (rcells (rs ++ [(i, z)])) ∧ Below B w w1 := by
  refine ⟨?_, ?_⟩
  · rw [rcells_append, List.length_append, hk]
    exact own'
  · refine (((Below.refl B w).trans (show Below B w (w.drewN n) from ⟨rfl, rfl, rfl, Nat.le_refl _, fun _ _ => rfl⟩)).alloc hB _).grown g (by simp [World.drewN]; omega) ?_
    intro k hk
    rcases own.2 with ⟨rfl, _⟩ | ⟨g', cap, cur, rfl, hg, _⟩
    · simp [Value.ownBlock] at hk
    · simp [Value.ownBlock] at hk
      omega
section
variable {w w' W : World} {d : DB} {q : Nat} {m : HM}
set_option maxRecDepth 100000 in
set_option maxHeartbeats 2000000 in
theorem d_move (T : DR w d q m) (f t : Int) (ht : W64 t) (hq : q ≤ 900000000) :
    Calls Tryz.prog 68 #[.pointer (some ⟨d.g, 0, none⟩), .int .i64 f, .int .i64 t] w fun e w' => e = .returned (.int .i64 (m.moveE f t)) ∧ DChg w d (q + 1) (m.moveM f t) w' := by
  have HT := hid T
  rcases hh : m.has f
  · have e1 : m.moveE f t = 4 := by simp [HM.moveE, hh]
    have e2 : m.moveM f t = m := by simp [HM.moveM, e1]
    have e3 : m.lackE f = 4 := by simp [HM.lackE, hh]
    rw [e1, e2]
    have HL := hid e3
    clear T hh e1 e2 e3
    go_enter Tryz.func68, Tryz.ntmps68
    go_wp2_with (go_at_call 139; refine (d_lacks HT.out f).mono ?_; rintro e w' ⟨rfl, n1, rfl⟩; rw [HL.out])
    go_ret
    exact ⟨rfl, (DChg.same HT.out (Kp.draw _ _)).mono (by omega)⟩
  · obtain ⟨i, x, hi, hx, hix, ho⟩ := T.lst.ix hh
    subst hx
    have HL : Hid (m.lackE (x.a : Int) = 0) := by show _ = _; simp [HM.lackE, hh]
    rw [Int.toNat_natCast] at ho
    have e2 : m.moveE (x.a : Int) t = roomE m t x.o.wd x.a := by simp [HM.moveE, hh, ho]
    have hok := T.inv.ok _ _ ho
    have hil := (List.getElem?_eq_some_iff.1 hi).1
    have hlen := T.len
    obtain ⟨g, cap, hov, hcl, hcm, _, _, _⟩ := T.ocell hi
    unfold maxLen at hcm
    have HFT : Hid (∀ W, Kp [] w W → Calls Tryz.prog 137 #[.pointer (some ⟨d.g, 0, none⟩), .int .i64 t, .agg #[.int .i64 (x.o.refs : Int), .int .i64 (x.o.data : Int), .int .i64 (x.o.kind : Int)], .int .i64 (x.o.id : Int)] W fun e w' => e = .returned (.int .i64 (roomE m t x.o.wd x.a)) ∧ Kp [] W w') := fun W K =>
      d_fits (T.kp0 K) t ht hok.vld x.o.id x.a (fun a o h => ⟨fun h1 h2 => h1 (by subst h2; rw [ho] at h; cases h; rfl), fun h1 h2 => h1 (T.inv.ids _ _ _ _ h ho h2)⟩)
    have HE := hid hix
    have HI := hid hi
    have HOV := hid hov
    have HNG : Hid (d.g < w.heap.size) := T.lt d.g (by simp [DB.all])
    by_cases hz : roomE m t x.o.wd x.a = 0
    · obtain ⟨t, rfl⟩ : ∃ k : Nat, t = (k : Int) := by
        obtain ⟨k, hk, _⟩ := roomE_zero hz
        exact ⟨k, hk⟩
      have HRE := hid hz
      have e1 : m.moveM (x.a : Int) (t : Int) = ((m.del x.a).add t x.o).fwd x.a t := by
        unfold HM.moveM
        rw [e2, if_pos hz, Int.toNat_natCast, ho, Int.toNat_natCast]
      rw [e1, e2, hz]
      obtain ⟨A, fc, hfv⟩ := T.f_len
      have HFV := hid hfv
      have hfq := T.fq
      obtain ⟨i0, hi0, hz0, hz1, hz2⟩ := info_parts infoMove
      clear T hh hi hix ho e2 e1 hz hok hov hfv
      go_enter Tryz.func68, Tryz.ntmps68
      go_wp2_with (first
        | (go_at_call 139; refine (d_lacks HT.out (x.a : Int)).mono ?_; rintro e w1 ⟨rfl, h1⟩; rw [HL.out]; have HK1 := hid (Kp.of_drewN h1); clear h1)
          | (go_at_call 141; refine (d_index (HT.out.kp0 HK1.out) (x.a : Int)).mono ?_; rintro e w2 ⟨rfl, h2⟩; rw [HE.out]; have HK2 := hid (HK1.out.chain (Kp.of_drewN h2)); clear h2; obtain ⟨g, cap', hov', _, _, _, hO, _⟩ := (HT.out.kp0 HK2.out).ocell HI.out; rw [HOV.out] at hov'; cases hov'; have hc1 := (HT.out.kp0 HK2.out).c1; rw [HOV.out] at hc1; have o0 := hO.c0; have o1 := hO.c1; have o2 := hO.c2; have o3 := hO.c3; have o4 := hO.c4; have o5 := hO.c5; have o6 := hO.c6; have o7 := hO.c7; clear hO; have HB5 := hid (Blk.new w2 109 #[.int .i64 (x.a : Int), .int .i64 (x.o.id : Int), .int .i64 (x.o.refs : Int), .int .i64 (x.o.data : Int), .int .i64 (x.o.kind : Int), .slice (some ⟨x.rb, 0, none⟩) x.o.refs x.rc, .slice (some ⟨x.db, 0, none⟩) x.o.data x.dc, .bool x.o.pin]); have HK5 := hid (HK2.out.chain (Kp.new w2 (.cells #[.int .i64 (x.a : Int), .int .i64 (x.o.id : Int), .int .i64 (x.o.refs : Int), .int .i64 (x.o.data : Int), .int .i64 (x.o.kind : Int), .slice (some ⟨x.rb, 0, none⟩) x.o.refs x.rc, .slice (some ⟨x.db, 0, none⟩) x.o.data x.dc, .bool x.o.pin] 109))); have HGB : Hid (w.heap.size ≤ w2.heap.size) := HK2.out.size)
          | (go_at_call 137; refine (HFT.out _ HK5.out).mono ?_; rintro e w6 ⟨rfl, K6⟩; (try rw [HRE.out]); have HK6 := hid (HK5.out.chain K6); have HB6 := hid (HB5.out.kp K6 (by simp)); clear K6 hc1 o0 o1 o2 o3 o4 o5 o6 o7)
        | (go_at_call 140; refine (d_cut (HT.out.kp0 HK6.out) HI.out).mono ?_; rintro e w7 ⟨rfl, v', R7, K7, N7⟩; have HR7 := hid R7; have HK7 : Hid (Kp [d.g] w w7) := HK6.out.chain0 K7; have HN7 : Hid (∀ y, v'.ownBlock = some y → w.heap.size ≤ y) := fun y hy => Nat.le_trans HK6.out.size (N7 y hy); have HN8 : Hid (∀ y, v'.ownBlock = some y → y ≠ w2.heap.size) := fun y hy e => (by have h1 := N7 y hy; have h2 := HB6.out.lt; omega); have hb7 := HB6.out.kp K7 (by have := HNG.out; have := HGB.out; simp; omega); have HB7 := hid hb7; have c0 := hb7.cell 0; have c1 := hb7.cell 1; have c2 := hb7.cell 2; have c3 := hb7.cell 3; have c4 := hb7.cell 4; have c5 := hb7.cell 5; have c6 := hb7.cell 6; have c7 := hb7.cell 7; have f0 := hb7.frozen 0; clear R7 K7 N7 hb7; have HK8 : Hid (Kp [w2.heap.size] w7 (w7.setCell ⟨w2.heap.size, 0, none⟩ (.int .i64 (t : Int)))) := Kp.cell w7 ⟨w2.heap.size, 0, none⟩ _; have HR8 : Hid (DR (w7.setCell ⟨w2.heap.size, 0, none⟩ (.int .i64 (t : Int))) { d with ov := v', os := d.os.take i ++ d.os.drop (i + 1) } q (m.del x.a)) := HR7.out.kp HK8.out (cut_box HT.out HI.out HGB.out HN8.out); have HW8 : Hid (Kp [d.g] w (w7.setCell ⟨w2.heap.size, 0, none⟩ (.int .i64 (t : Int)))) := HK7.out.trans HK8.out (fun y hy => .inl hy) (fun y hy => .inr (by rw [List.mem_singleton] at hy; rw [hy]; exact HGB.out)); have HNEW := hid (move_new HT.out HI.out HRE.out HW8.out (by simp) HN7.out))
        | (go_at_call 138; refine (d_put (x := { x with a := t }) HR8.out HNEW.out).mono ?_; rintro e w9 ⟨rfl, k9, v9, R9, K9, N9⟩; have HR9 := hid R9; have HK9 : Hid (Kp [d.g] w w9) := HW8.out.trans K9 (fun y hy => .inl hy) (fun y hy => .inl hy); have HN9 : Hid (∀ y, v9.ownBlock = some y → w.heap.size ≤ y) := fun y hy => Nat.le_trans HW8.out.size (N9 y hy); clear R9 K9 N9 c0 c1 c2 c3 c4 c5 c6 c7 f0))
      go_loopw [11, 12] (fun s c wr => ∃ j : Nat, j ≤ d.fs.length ∧ c = .int .i64 (j : Int) ∧ wr.ownsRow w9.heap.size 150 2 s (mvs x.a (d.fs.take j)).length (rcells (mvs x.a (d.fs.take j))) ∧ Below w9.heap.size w9 wr) (fun _ c _ => d.fs.length - (intOf c).toNat)
      case atStart => exact ⟨0, by omega, by simp, ⟨rfl, .inl ⟨rfl, rfl⟩⟩, Below.refl _ _⟩
      case round =>
        obtain ⟨j, hj, rfl, own, hbel⟩ := hrel
        have HRW := hid (HR9.out.kp0 (Kp.of_below hbel))
        have hf2 : wr.cell? ⟨d.g, 2, none⟩ = some d.fv := HRW.out.c2
        rw [HFV.out] at hf2
        have HO := hid own
        have HB := hid hbel
        clear own hbel
        have HSZ : Hid (w9.heap.size ≤ wr.heap.size) := HB.out.size
        have hle := mvs_le x.a d.fs j
        by_cases hlt : j < d.fs.length
        · have hx : d.fs[j]? = some (d.fs.getD j (0, 0)) := by rw [List.getD_eq_getElem?_getD, List.getElem?_eq_getElem hlt]; rfl
          obtain ⟨gf, rfl, p0, p1⟩ : ∃ g, A = some ⟨g, 0, none⟩ ∧ wr.cell? ⟨g, j * 2, none⟩ = some (.int .i64 ((d.fs.getD j (0, 0)).1 : Int)) ∧ wr.cell? ⟨g, j * 2 + 1, none⟩ = some (.int .i64 ((d.fs.getD j (0, 0)).2 : Int)) := by
            rcases HRW.out.f_form with ⟨_, h0⟩ | ⟨g, cap', hv, _, _, hc⟩
            · have h0 : d.fs = [] := h0
              rw [h0] at hlt; simp at hlt
            · have hv : d.fv = _ := hv
              rw [HFV.out] at hv
              injection hv with hv
              exact ⟨g, hv, hc j hlt⟩
          generalize d.fs.getD j (0, 0) = p at p0 p1 hx
          have HTK := hid (mvs_take (k := x.a) hx)
          by_cases he : p.1 = x.a
          · have HTE : Hid (mvs x.a (d.fs.take (j + 1)) = mvs x.a (d.fs.take j)) := by show _ = _; rw [HTK.out, if_pos he, List.append_nil]
            have e2 : ((p.1 : Int) != (x.a : Int)) = false := by rw [bne_eq_false_iff_eq]; omega
            clear he hx
            go_wp2
            go_roundw
            case rel => exact ⟨j + 1, by omega, by go_num, by rw [HTE.out]; exact HO.out, HB.out⟩
            case measure => simp [intOf]; omega
          · have HTE : Hid (mvs x.a (d.fs.take (j + 1)) = mvs x.a (d.fs.take j) ++ [p]) := by show _ = _; rw [HTK.out, if_neg he]
            have e2 : ((p.1 : Int) != (x.a : Int)) = true := bne_iff_ne.2 (by omega)
            have HN : Hid _ := mv_new wr (p.1 : Int) (p.2 : Int) 0
            have NONE := run_news_one (p.1 : Int) (p.2 : Int)
            clear he hx
            go_wp2_with (at_builtin; refine wpList_append_own _ rfl (.tmp 66) (.tmp 74) 99 rfl w9.heap.size 150 i0 (.agg #[.int .i64 0, .int .i64 0]) 2 16 Tryz.underlying99 hi0 hz0 hz1 hz2 rfl (by decide) _ _ _ rfl (HO.out.alloc _) ⟨wr.heap.size, 0, none⟩ 1 1 [.int .i64 (p.1 : Int), .int .i64 (p.2 : Int)] rfl rfl HN.out NONE (by unfold maxLen; omega) (by omega) (by have := HSZ.out; simp; omega) ?_; intro vn w10 hown' hgr hnil; have HO5 := hid hown'; have HG5 := hid hgr; clear hown' hgr hnil)
            go_roundw
            case rel =>
              obtain ⟨z1, z2⟩ := mvs_end (n := 0) HSZ.out rfl HO.out HO5.out HG5.out
              exact ⟨j + 1, by omega, by go_num, by rw [HTE.out]; exact z1, HB.out.trans z2⟩
            case measure => simp [intOf]; omega
        · obtain rfl : j = d.fs.length := by omega
          rw [List.take_length] at HO hle
          have HN : Hid _ := mv_new wr (x.a : Int) (t : Int) 0
          have NONE := run_news_one (x.a : Int) (t : Int)
          have hgf := HRW.out.g_fr 2
          go_wp2_with (at_builtin; refine wpList_append_own _ rfl (.tmp 77) (.tmp 81) 99 rfl w9.heap.size 150 i0 (.agg #[.int .i64 0, .int .i64 0]) 2 16 Tryz.underlying99 hi0 hz0 hz1 hz2 rfl (by decide) _ _ _ rfl (HO.out.alloc _) ⟨wr.heap.size, 0, none⟩ 1 1 [.int .i64 (x.a : Int), .int .i64 (t : Int)] rfl rfl HN.out NONE (by unfold maxLen; omega) (by omega) (by have := HSZ.out; simp; omega) ?_; intro vn w10 hown' hgr hnil; obtain ⟨z1, z2⟩ := mvs_end (n := 0) HSZ.out rfl HO.out hown' hgr; rw [List.length_append, List.length_singleton] at z1; have HO5 := hid z1; have HB5 := hid (HB.out.trans z2); clear z1 z2 hown' hgr hnil; obtain ⟨An, cn, rfl⟩ := own_sl HO5.out; have HR10 := hid (HR9.out.kp0 (Kp.of_below HB5.out)); have hc2 : w10.cell? ⟨d.g, 2, none⟩ = some d.fv := HR10.out.c2; have hfr : w10.frozen? ⟨d.g, 2, none⟩ = false := HR10.out.g_fr 2)
          go_ret
          obtain ⟨R11, K11, N11⟩ := HR9.out.setFw (Kp.of_below HB5.out) HO5.out (by simp)
          refine ⟨rfl, ⟨{ d with ov := v9, os := (d.os.take i ++ d.os.drop (i + 1)).take k9 ++ { x with a := t } :: (d.os.take i ++ d.os.drop (i + 1)).drop k9, fv := .slice An ((mvs x.a d.fs).length + 1) cn, fs := mvs x.a d.fs ++ [(x.a, t)] }, rfl, R11, (HK9.out.trans K11 (fun y hy => .inl hy) (fun y hy => .inl hy)).mono (fun y hy => .inl (by have hy : y ∈ [d.g] := hy; rw [List.mem_singleton] at hy; subst hy; simp [DB.all])), fun y hy => move_all HI.out HN9.out (fun z hz => Nat.le_trans HK9.out.size (N11 z hz)) y hy⟩⟩
    · have e1 : m.moveM (x.a : Int) t = m := by unfold HM.moveM; rw [if_neg (by rw [e2]; exact hz)]
      rw [e1, e2]
      have HRE : Hid (roomE m t x.o.wd x.a = roomE m t x.o.wd x.a) := rfl
      have HZ := hid hz
      generalize roomE m t x.o.wd x.a = e0 at HFT HRE HZ ⊢
      have e8 : (e0 != 0) = true := bne_iff_ne.2 HZ.out
      clear T hh hi hix ho e2 e1 hz hok hov
      go_enter Tryz.func68, Tryz.ntmps68
      go_wp2_with (first
        | (go_at_call 139; refine (d_lacks HT.out (x.a : Int)).mono ?_; rintro e w1 ⟨rfl, h1⟩; rw [HL.out]; have HK1 := hid (Kp.of_drewN h1); clear h1)
          | (go_at_call 141; refine (d_index (HT.out.kp0 HK1.out) (x.a : Int)).mono ?_; rintro e w2 ⟨rfl, h2⟩; rw [HE.out]; have HK2 := hid (HK1.out.chain (Kp.of_drewN h2)); clear h2; obtain ⟨g, cap', hov', _, _, _, hO, _⟩ := (HT.out.kp0 HK2.out).ocell HI.out; rw [HOV.out] at hov'; cases hov'; have hc1 := (HT.out.kp0 HK2.out).c1; rw [HOV.out] at hc1; have o0 := hO.c0; have o1 := hO.c1; have o2 := hO.c2; have o3 := hO.c3; have o4 := hO.c4; have o5 := hO.c5; have o6 := hO.c6; have o7 := hO.c7; clear hO; have HB5 := hid (Blk.new w2 109 #[.int .i64 (x.a : Int), .int .i64 (x.o.id : Int), .int .i64 (x.o.refs : Int), .int .i64 (x.o.data : Int), .int .i64 (x.o.kind : Int), .slice (some ⟨x.rb, 0, none⟩) x.o.refs x.rc, .slice (some ⟨x.db, 0, none⟩) x.o.data x.dc, .bool x.o.pin]); have HK5 := hid (HK2.out.chain (Kp.new w2 (.cells #[.int .i64 (x.a : Int), .int .i64 (x.o.id : Int), .int .i64 (x.o.refs : Int), .int .i64 (x.o.data : Int), .int .i64 (x.o.kind : Int), .slice (some ⟨x.rb, 0, none⟩) x.o.refs x.rc, .slice (some ⟨x.db, 0, none⟩) x.o.data x.dc, .bool x.o.pin] 109))); have HGB : Hid (w.heap.size ≤ w2.heap.size) := HK2.out.size)
          | (go_at_call 137; refine (HFT.out _ HK5.out).mono ?_; rintro e w6 ⟨rfl, K6⟩; (try rw [HRE.out]); have HK6 := hid (HK5.out.chain K6); have HB6 := hid (HB5.out.kp K6 (by simp)); clear K6 hc1 o0 o1 o2 o3 o4 o5 o6 o7))
      go_ret
      exact ⟨rfl, (DChg.same HT.out HK6.out).mono (by omega)⟩
end
end Go.Proofs.YtkkmlllajfafcaaGreat
