/-
  The contract of the document's heap's Place. Conditions: those that stand in each theorem.
-/
import Derived.BigQuiet
import Derived.Deep.RegionHeld3
import Derived.Test.YthndilllnneijaaGreatPDq
import Derived.Test.YthndilllnneijaaGreatPDr
import Derived.Test.YthndilllnneijaaGreatPG7
import Derived.Test.YthndilllnneijaaGreatPG6
set_option linter.unusedSimpArgs false
set_option linter.unusedVariables false
set_option maxRecDepth 100000
set_option maxHeartbeats 2000000
namespace Go.Proofs.YthndilllnneijaaGreat
open Go.RowKit Go.Deep Go.Maps
theorem DR.setBorn {w : World} {d : DB} {q : Nat} {m : HM} (T : DR w d q m) : DR (w.setCell ⟨d.g, 3, none⟩ (.int .i64 ((m.born + 1 : Nat) : Int))) d (q + 1) m.bear := by
 have k := Kp.cell w ⟨d.g, 3, none⟩ (.int .i64 ((m.born + 1 : Nat) : Int))
 obtain ⟨n1, n2, n3, n4, n5, n6⟩ := T.nd'
 obtain ⟨sp, h1, h2, h3, B⟩ := T.B
 refine ⟨T.inv.bear, ⟨T.lst.up, T.lst.mem⟩, ⟨T.fws.nd, T.fws.mem, T.fws.len⟩, T.nd, Nat.le_succ_of_le T.fq, Nat.succ_le_succ T.bq, ?_, ⟨sp, h1, h2, h3, B.kp k (by simpa using n1.symm)⟩, own_kpS T.O k (fun y hy => by simpa using (n2 y hy).1), own_kpS T.F k (fun y hy => by simpa using (n3 y hy).1), fun x hx => ?_⟩
 · have := T.G.set_ 3 (.int .i64 ((m.born + 1 : Nat) : Int))
   exact this
 · have h := T.R x hx
   have e1 : x.rb ≠ d.g := fun e => n4 (rowsOf_mem.2 ⟨x, hx, .inl e.symm⟩)
   have e2 : x.db ≠ d.g := fun e => n4 (rowsOf_mem.2 ⟨x, hx, .inr e.symm⟩)
   exact ⟨h.1.imp fun sp B => B.kp k (by simpa using e1), h.2.imp fun sp B => B.kp k (by simpa using e2)⟩
theorem blk_at {W : World} {a b : Nat} {t : TypeId} {cs : Array Value} (e : a = b) (h : Blk W a t cs) : Blk W b t cs := e ▸ h
def HM.nob (m : HM) (r dd kd : Nat) : Ob := ⟨m.born + 1, r, dd, kd, List.replicate (r + dd) 0, false⟩
theorem nob_eq (m : HM) (r dd kd : Nat) : m.newOb (r : Int) (dd : Int) (kd : Int) = m.nob r dd kd := by simp [HM.newOb, HM.nob]
section
variable {w w' W w4 w7 : World} {d : DB} {q q' : Nat} {m m' : HM}
theorem put_chg (T : DR w d q m) {k : Nat} {x : DO} {v' : Value} (K : Kp [d.g] w w7) (R : DR w7 { d with ov := v', os := d.os.take k ++ x :: d.os.drop k } q' m') (hv : ∀ y, v'.ownBlock = some y → w.heap.size ≤ y) (h1 : w.heap.size ≤ x.rb) (h2 : w.heap.size ≤ x.db) : DChg w d q' m' w7 := by
 refine ⟨{ d with ov := v', os := d.os.take k ++ x :: d.os.drop k }, rfl, R, K.mono (fun y hy => .inl (by simp at hy; subst hy; simp [DB.all])), fun y hy => ?_⟩
 simp only [DB.all, List.mem_cons, List.mem_append, Option.mem_toList] at hy ⊢
 rcases hy with h | h | h | h | h
 · exact .inl (.inl h)
 · exact .inl (.inr (.inl h))
 · exact .inr (hv y h)
 · exact .inl (.inr (.inr (.inr (.inl h))))
 · obtain ⟨z, hz, e⟩ := rowsOf_mem.1 h
   rcases List.mem_append.1 hz with h | h
   · exact .inl (.inr (.inr (.inr (.inr (rowsOf_mem.2 ⟨z, List.mem_of_mem_take h, e⟩)))))
   · rcases List.mem_cons.1 h with rfl | h
     · rcases e with rfl | rfl
       · exact .inr h1
       · exact .inr h2
     · exact .inl (.inr (.inr (.inr (.inr (rowsOf_mem.2 ⟨z, List.mem_of_mem_drop h, e⟩)))))
def HM.newDO (m : HM) (t r dd kd rb db : Nat) : DO := ⟨t, m.nob r dd kd, rb, r, db, dd⟩
theorem newDO_new (T : DR w d q m) {t r dd kd rb db : Nat} (hv : vldB r dd kd = true) (he : roomE m (t : Int) (wdN r dd) 0 = 0) (B1 : Blk W rb 3 (zcells (List.replicate r 0) ++ []).toArray) (B2 : Blk W db 3 (zcells (List.replicate dd 0) ++ []).toArray) (h1 : w.heap.size ≤ rb) (h2 : w.heap.size ≤ db) (hne : rb ≠ db) :
   New1 W d m.bear (m.newDO t r dd kd rb db) ∧ m.bear.add t (m.nob r dd kd) = m.placeM (t : Int) (r : Int) (dd : Int) (kd : Int) := by
 obtain ⟨k, hk, ev, hlt, hs, htk⟩ := roomE_zero he
 obtain rfl : t = k := by omega
 obtain ⟨hf, J, hok⟩ := place_model T.inv hv ev hs htk
 rw [nob_eq] at J hok
 have hwd := wdN_bd (vldB_bd hv).1 (vldB_bd hv).2.1
 have hno : m.bear.ob t = none := by
   rcases ho : m.bear.ob t with _ | o
   · rfl
   · have := (T.inv.bear.ok _ _ ho).wd_bd
     exact absurd ⟨t, o, ho, Nat.le_refl _, by omega⟩ (hf t (Nat.le_refl _) (by omega))
 have hlt := T.lt
 refine ⟨⟨hno, J, ⟨[], ?_⟩, ⟨[], ?_⟩, fun hm => by have := hlt rb hm; omega, fun hm => by have := hlt db hm; omega, hne⟩, ?_⟩
 · have e : (m.newDO t r dd kd rb db).rs = List.replicate r 0 := by simp [HM.newDO, DO.rs, HM.nob]
   rw [e]; exact B1
 · have e : (m.newDO t r dd kd rb db).ds = List.replicate dd 0 := by simp [HM.newDO, DO.ds, HM.nob]
   rw [e]; exact B2
 · have e : m.placeE (t : Int) (r : Int) (dd : Int) (kd : Int) = 0 := by
     unfold HM.placeE
     rw [hv, if_pos rfl, Int.toNat_natCast, Int.toNat_natCast]
     exact he
   unfold HM.placeM
   rw [if_pos e, Int.toNat_natCast, nob_eq]
theorem d_place (T : DR w d q m) (a r dd kd : Int) (ha : W64 a) (hq : q ≤ 900000000) :
   Calls Tryz.prog 66 #[.pointer (some ⟨d.g, 0, none⟩), .int .i64 a, .agg #[.int .i64 r, .int .i64 dd, .int .i64 kd]] w fun e w' => e = .returned (.tuple #[.int .i64 (m.placeV a r dd kd), .int .i64 (m.placeE a r dd kd)]) ∧ DChg w d (q + 1) (m.placeM a r dd kd) w' := by
 have HT := hid T
 have HB0 := hid (Blk.new w 33 #[.int .i64 r, .int .i64 dd, .int .i64 kd])
 have HK0 := hid (Kp.new w (.cells #[.int .i64 r, .int .i64 dd, .int .i64 kd] 33))
 have hbb := HB0.out
 have b0 := hbb.cell 0
 have b1 := hbb.cell 1
 have b2 := hbb.cell 2
 rcases hv : vldB r dd kd
 · have e1 : m.placeE a r dd kd = 2 := by simp [HM.placeE, hv]
   have e2 : m.placeV a r dd kd = 0 := by simp [HM.placeV, e1]
   have e3 : m.placeM a r dd kd = m := by simp [HM.placeM, e1]
   rw [e1, e2, e3]
   have HV := hid hv
   clear T hbb hv e1 e2 e3
   go_enter Tryz.func66, Tryz.ntmps66
   go_wp2_with (first
     | (go_at_call 60; refine (d_made (HT.out.kp0 HK0.out)).mono ?_; rintro e w' ⟨rfl, n1, rfl⟩)
     | (go_at_call 136; refine (r_valid r dd kd _).mono ?_; rintro e w3 ⟨rfl, K3⟩; rw [HV.out]; have HK3 := hid ((HK0.out.drewN n1).chain K3); clear K3))
   go_ret2
   exact ⟨rfl, (DChg.same HT.out HK3.out).mono (by omega)⟩
 · obtain ⟨r, dd, kd, rfl, rfl, rfl, hr1, hd1, hk1⟩ := vldB_nat hv
   have HV := hid hv
   have hpE : m.placeE a (r : Int) (dd : Int) (kd : Int) = roomE m a (wdN r dd) 0 := by
     unfold HM.placeE
     rw [hv, if_pos rfl, Int.toNat_natCast, Int.toNat_natCast]
   have HHB : Hid (∀ a o, m.ob a = some o → (o.id ≠ 0 ↔ a ≠ 0)) := fun a o ho => by
     have h1 := (T.inv.ok _ _ ho).pos
     have h2 := T.inv.lo ho
     omega
   have hbq := T.bq
   by_cases h0 : roomE m a (wdN r dd) 0 = 0
   · have hz : ∃ t : Nat, a = (t : Int) := by
       obtain ⟨t, ht, _⟩ := roomE_zero h0
       exact ⟨t, ht⟩
     obtain ⟨t, rfl⟩ := hz
     have HRE := hid h0
     have HPV : Hid (m.placeV (t : Int) (r : Int) (dd : Int) (kd : Int) = ((m.born + 1 : Nat) : Int) ∧ m.placeE (t : Int) (r : Int) (dd : Int) (kd : Int) = 0) := by
       have e : m.placeE (t : Int) (r : Int) (dd : Int) (kd : Int) = 0 := by rw [hpE]; exact h0
       exact ⟨by unfold HM.placeV; rw [if_pos e], e⟩
     have hmk : ∀ (n : Nat), n ≤ 300 → ∀ W : World, (Instr.makeSlice 59 (.int .i64 (n : Int)) (.int .i64 (n : Int))).run Tryz.prog W = .ok (.slice (some ⟨W.heap.size, 0, none⟩) n n) (W.alloc (.cells (madeCells #[.int .i64 0] n) 3)) := fun n hn W =>
       run_make_row' (P := Tryz.prog) 59 3 (.int .i64 0) 8 Tryz.underlying59 infoInt rfl .i64 .i64 n (by omega) (by omega) W
     have hmr := hmk r (by omega)
     have hmd := hmk dd (by omega)
     have HW64 := hid ha
     have HNG : Hid (w.heap.size ∉ [d.g]) := by show _ ∉ _; simp; have := T.lt d.g (by simp [DB.all]); omega
     clear T hbb hv hpE h0 hmk ha
     go_enter Tryz.func66, Tryz.ntmps66
     go_wp2_with (first
       | (go_at_call 60; refine (d_made (HT.out.kp0 HK0.out)).mono ?_; rintro e w1 ⟨rfl, h1⟩; have HK1 := hid (HK0.out.chain (Kp.of_drewN h1)); have hb1 := HB0.out.kp (Kp.of_drewN h1) (by simp); have c0 := hb1.cell 0; have c1 := hb1.cell 1; have c2 := hb1.cell 2; have HB1 := hid hb1; clear h1 hb1)
       | (go_at_call 136; refine (r_valid (r : Int) (dd : Int) (kd : Int) _).mono ?_; rintro e w2 ⟨rfl, K2⟩; rw [HV.out]; have HK2 := hid (HK1.out.chain K2); have hb2 := HB1.out.kp K2 (by simp); have d0 := hb2.cell 0; have d1 := hb2.cell 1; have d2 := hb2.cell 2; have HB2 := hid hb2; clear K2 hb2)
       | (go_at_call 137; refine (d_fits (HT.out.kp0 HK2.out) (t : Int) HW64.out HV.out 0 0 HHB.out).mono ?_; rintro e w3 ⟨rfl, K3⟩; rw [HRE.out]; have HK3 := hid (HK2.out.chain K3); have HB3 := hid (HB2.out.kp K3 (by simp)); have hc3 := (HT.out.kp0 HK3.out).c3; have hf3 := (HT.out.kp0 HK3.out).g_fr 3; clear K3))
     have hwb : (m.born : Int) + 1 = ((m.born + 1 : Nat) : Int) := by omega
     rw [hwb]
     have HT4 : Hid (DR (w3.setCell ⟨d.g, 3, none⟩ (.int .i64 ((m.born + 1 : Nat) : Int))) d (q + 1) m.bear) := (HT.out.kp0 HK3.out).setBorn
     have HK4 : Hid (Kp [d.g] w (w3.setCell ⟨d.g, 3, none⟩ (.int .i64 ((m.born + 1 : Nat) : Int)))) := HK3.out.chain0 (Kp.cell w3 ⟨d.g, 3, none⟩ _)
     have HB4 := hid (HB3.out.kp (Kp.cell w3 ⟨d.g, 3, none⟩ (.int .i64 ((m.born + 1 : Nat) : Int))) HNG.out)
     generalize w3.setCell ⟨d.g, 3, none⟩ (.int .i64 ((m.born + 1 : Nat) : Int)) = w4 at HT4 HK4 HB4 ⊢
     have HSZ4 : Hid (w.heap.size ≤ w4.heap.size) := HK4.out.size
     have z3 : w4.cell? ⟨d.g, 3, none⟩ = some (.int .i64 ((m.born + 1 : Nat) : Int)) := HT4.out.c3
     have z0 : w4.cell? ⟨w.heap.size, 0, none⟩ = some (.int .i64 (r : Int)) := HB4.out.cell 0
     have z1 : w4.cell? ⟨w.heap.size, 1, none⟩ = some (.int .i64 (dd : Int)) := HB4.out.cell 1
     have z2 : w4.cell? ⟨w.heap.size, 2, none⟩ = some (.int .i64 (kd : Int)) := HB4.out.cell 2
     clear hwb
     go_wp2_with (fail)
     refine wp_region_held_drew (S := fun W => W.cell? ⟨d.g, 3, none⟩ = some (.int .i64 ((m.born + 1 : Nat) : Int)) ∧ W.cell? ⟨w.heap.size, 0, none⟩ = some (.int .i64 (r : Int)) ∧ W.cell? ⟨w.heap.size, 1, none⟩ = some (.int .i64 (dd : Int)) ∧ W.cell? ⟨w.heap.size, 2, none⟩ = some (.int .i64 (kd : Int))) (by kernel_rfl) ?_ (fun hHeld => ?_)
     · exact ⟨kp_cellD (Kp.draw _ 1) z3, kp_cellD (Kp.draw _ 1) z0, kp_cellD (Kp.draw _ 1) z1, kp_cellD (Kp.draw _ 1) z2⟩
     refine tk0 0 rfl ?_
     refine tk0 1 rfl ?_
     refine tk0 2 rfl ?_
     refine tk0 3 rfl ?_
     refine tk0 4 rfl ?_
     refine tk 5 rfl (Or.inl ⟨by rfl, by (intro wz hSw; have hcj := hSw.1; go_simp; try with_reducible rfl)⟩) ?_
     refine tk 6 rfl (Or.inl ⟨by rfl, by (intro wz hSw; have k0 := hSw.2.1; have k1 := hSw.2.2.1; have k2 := hSw.2.2.2; go_simp; try with_reducible rfl)⟩) ?_
     refine tk0 7 rfl ?_
     refine tk 8 rfl (Or.inl ⟨by rfl, by (intro wz hSw; have k0 := hSw.2.1; have k1 := hSw.2.2.1; have k2 := hSw.2.2.2; go_simp; try with_reducible rfl)⟩) ?_
     refine tk0 10 rfl ?_
     refine tk 11 rfl (Or.inl ⟨by rfl, by (intro wz hSw; have k0 := hSw.2.1; have k1 := hSw.2.2.1; have k2 := hSw.2.2.2; go_simp; try with_reducible rfl)⟩) ?_
     refine wpAnyH_ready (rs := [9, 12]) (by kernel_rfl) (by simp) ?_
     refine (AllReadyH.cons rfl (fun K hK => ?_) (AllReadyH.cons rfl (fun K hK => ?_) AllReadyH.nil))
     · go_simp
       refine hK.out _ _ ?_ (fun hHeld => ?_)
       · exact ⟨cell_kp (Kp.new _ _) hHeld.1, cell_kp (Kp.new _ _) hHeld.2.1, cell_kp (Kp.new _ _) hHeld.2.2.1, cell_kp (Kp.new _ _) hHeld.2.2.2⟩
       clear hK K
       refine rd 12 rfl fun K hK => ?_
       go_simp
       refine hK.out _ _ ?_ (fun hHeld => ?_)
       · exact ⟨cell_kp (Kp.new _ _) hHeld.1, cell_kp (Kp.new _ _) hHeld.2.1, cell_kp (Kp.new _ _) hHeld.2.2.1, cell_kp (Kp.new _ _) hHeld.2.2.2⟩
       clear hK K
       refine tk0 13 rfl ?_
       refine rd 14 rfl fun K hK => ?_
       go_simp
       have hk6 : Kp [] w4 ((w4.drew.alloc (.cells (madeCells #[.int .i64 0] r) 3)).alloc (.cells (madeCells #[.int .i64 0] dd) 3)) := ((Kp.draw w4 1).chain (Kp.new _ (.cells (madeCells #[.int .i64 0] r) 3))).chain (Kp.new _ (.cells (madeCells #[.int .i64 0] dd) 3))
       have HK6 := hid hk6
       have HRB1 : Hid (w.heap.size ≤ w4.heap.size) := (by have := HSZ4.out; show _ ≤ _; omega)
       have HDB1 : Hid (w.heap.size ≤ (w4.heap.size + 1)) := (by have := HSZ4.out; show _ ≤ _; omega)
       obtain ⟨hnew, hpm⟩ := newDO_new (W := ((w4.drew.alloc (.cells (madeCells #[.int .i64 0] r) 3)).alloc (.cells (madeCells #[.int .i64 0] dd) 3))) (rb := w4.heap.size) (db := (w4.heap.size + 1)) HT.out HV.out HRE.out (by first | exact ((Blk.new w4.drew 3 (madeCells #[.int .i64 0] r)).kp (Kp.new _ (.cells (madeCells #[.int .i64 0] dd) 3)) (by simp)) | (rw [← made_z]; exact ((Blk.new w4.drew 3 (madeCells #[.int .i64 0] r)).kp (Kp.new _ (.cells (madeCells #[.int .i64 0] dd) 3)) (by simp)))) (by first | exact (blk_at (by simp) (Blk.new (w4.drew.alloc (.cells (madeCells #[.int .i64 0] r) 3)) 3 (madeCells #[.int .i64 0] dd))) | (rw [← made_z]; exact (blk_at (by simp) (Blk.new (w4.drew.alloc (.cells (madeCells #[.int .i64 0] r) 3)) 3 (madeCells #[.int .i64 0] dd))))) HRB1.out HDB1.out (by simp)
       refine (d_put (x := m.newDO t r dd kd w4.heap.size (w4.heap.size + 1)) (HT4.out.kp0 hk6) hnew).mono ?_
       rintro e w7 ⟨rfl, k7, v7, R7, K7, N7⟩
       have HC7 : Hid (DChg w d (q + 1) (m.placeM (t : Int) (r : Int) (dd : Int) (kd : Int)) w7) := (by rw [← hpm]; exact put_chg HT.out ((HK4.out.chain hk6).trans K7 (fun x hx => .inl hx) (fun x hx => .inl hx)) R7 (fun y hy => Nat.le_trans (Nat.le_trans HSZ4.out hk6.size) (N7 y hy)) HRB1.out HDB1.out)
       have hb7 := R7.c3
       have HS7 : Hid (w7.cell? ⟨w.heap.size, 0, none⟩ = some (.int .i64 (r : Int)) ∧ w7.cell? ⟨w.heap.size, 1, none⟩ = some (.int .i64 (dd : Int)) ∧ w7.cell? ⟨w.heap.size, 2, none⟩ = some (.int .i64 (kd : Int))) := ⟨cell_kps K7 hHeld.2.1 HNG.out, cell_kps K7 hHeld.2.2.1 HNG.out, cell_kps K7 hHeld.2.2.2 HNG.out⟩
       have HB7 := hid hb7
       clear hnew hpm R7 K7 N7 hk6 HK6 hb7
       try go_wp2_with fail
       refine hK.out _ _ ?_ (fun hHeld => ?_)
       · exact ⟨HB7.out, HS7.out.1, HS7.out.2.1, HS7.out.2.2⟩
       clear hK K
       refine wpAnyH_done (by kernel_rfl) ?_ _
       clear hHeld
       have hb7 := HB7.out
       have hbb : (m.bear.add t (m.nob r dd kd)).born = m.born + 1 := rfl
       go_wp2
       go_ret2
       rw [HPV.out.1, HPV.out.2]
       exact ⟨rfl, HC7.out⟩
     · go_simp
       refine hK.out _ _ ?_ (fun hHeld => ?_)
       · exact ⟨cell_kp (Kp.new _ _) hHeld.1, cell_kp (Kp.new _ _) hHeld.2.1, cell_kp (Kp.new _ _) hHeld.2.2.1, cell_kp (Kp.new _ _) hHeld.2.2.2⟩
       clear hK K
       refine rd 9 rfl fun K hK => ?_
       go_simp
       refine hK.out _ _ ?_ (fun hHeld => ?_)
       · exact ⟨cell_kp (Kp.new _ _) hHeld.1, cell_kp (Kp.new _ _) hHeld.2.1, cell_kp (Kp.new _ _) hHeld.2.2.1, cell_kp (Kp.new _ _) hHeld.2.2.2⟩
       clear hK K
       refine tk0 13 rfl ?_
       refine rd 14 rfl fun K hK => ?_
       go_simp
       have hk6 : Kp [] w4 ((w4.drew.alloc (.cells (madeCells #[.int .i64 0] dd) 3)).alloc (.cells (madeCells #[.int .i64 0] r) 3)) := ((Kp.draw w4 1).chain (Kp.new _ (.cells (madeCells #[.int .i64 0] dd) 3))).chain (Kp.new _ (.cells (madeCells #[.int .i64 0] r) 3))
       have HK6 := hid hk6
       have HRB1 : Hid (w.heap.size ≤ (w4.heap.size + 1)) := (by have := HSZ4.out; show _ ≤ _; omega)
       have HDB1 : Hid (w.heap.size ≤ w4.heap.size) := (by have := HSZ4.out; show _ ≤ _; omega)
       obtain ⟨hnew, hpm⟩ := newDO_new (W := ((w4.drew.alloc (.cells (madeCells #[.int .i64 0] dd) 3)).alloc (.cells (madeCells #[.int .i64 0] r) 3))) (rb := (w4.heap.size + 1)) (db := w4.heap.size) HT.out HV.out HRE.out (by first | exact (blk_at (by simp) (Blk.new (w4.drew.alloc (.cells (madeCells #[.int .i64 0] dd) 3)) 3 (madeCells #[.int .i64 0] r))) | (rw [← made_z]; exact (blk_at (by simp) (Blk.new (w4.drew.alloc (.cells (madeCells #[.int .i64 0] dd) 3)) 3 (madeCells #[.int .i64 0] r))))) (by first | exact ((Blk.new w4.drew 3 (madeCells #[.int .i64 0] dd)).kp (Kp.new _ (.cells (madeCells #[.int .i64 0] r) 3)) (by simp)) | (rw [← made_z]; exact ((Blk.new w4.drew 3 (madeCells #[.int .i64 0] dd)).kp (Kp.new _ (.cells (madeCells #[.int .i64 0] r) 3)) (by simp)))) HRB1.out HDB1.out (by simp)
       refine (d_put (x := m.newDO t r dd kd (w4.heap.size + 1) w4.heap.size) (HT4.out.kp0 hk6) hnew).mono ?_
       rintro e w7 ⟨rfl, k7, v7, R7, K7, N7⟩
       have HC7 : Hid (DChg w d (q + 1) (m.placeM (t : Int) (r : Int) (dd : Int) (kd : Int)) w7) := (by rw [← hpm]; exact put_chg HT.out ((HK4.out.chain hk6).trans K7 (fun x hx => .inl hx) (fun x hx => .inl hx)) R7 (fun y hy => Nat.le_trans (Nat.le_trans HSZ4.out hk6.size) (N7 y hy)) HRB1.out HDB1.out)
       have hb7 := R7.c3
       have HS7 : Hid (w7.cell? ⟨w.heap.size, 0, none⟩ = some (.int .i64 (r : Int)) ∧ w7.cell? ⟨w.heap.size, 1, none⟩ = some (.int .i64 (dd : Int)) ∧ w7.cell? ⟨w.heap.size, 2, none⟩ = some (.int .i64 (kd : Int))) := ⟨cell_kps K7 hHeld.2.1 HNG.out, cell_kps K7 hHeld.2.2.1 HNG.out, cell_kps K7 hHeld.2.2.2 HNG.out⟩
       have HB7 := hid hb7
       clear hnew hpm R7 K7 N7 hk6 HK6 hb7
       try go_wp2_with fail
       refine hK.out _ _ ?_ (fun hHeld => ?_)
       · exact ⟨HB7.out, HS7.out.1, HS7.out.2.1, HS7.out.2.2⟩
       clear hK K
       refine wpAnyH_done (by kernel_rfl) ?_ _
       clear hHeld
       have hb7 := HB7.out
       have hbb : (m.bear.add t (m.nob r dd kd)).born = m.born + 1 := rfl
       go_wp2
       go_ret2
       rw [HPV.out.1, HPV.out.2]
       exact ⟨rfl, HC7.out⟩
   · have e1 : m.placeV a (r : Int) (dd : Int) (kd : Int) = 0 := by unfold HM.placeV; rw [if_neg (by rw [hpE]; exact h0)]
     have e2 : m.placeM a (r : Int) (dd : Int) (kd : Int) = m := by unfold HM.placeM; rw [if_neg (by rw [hpE]; exact h0)]
     rw [e1, e2, hpE]
     have HW64 := hid ha
     have HH0 := hid h0
     have HTW := hid (fun w3 (K3 : Kp [] w w3) => d_fits (HT.out.kp0 K3) a ha hv 0 0 HHB.out)
     generalize roomE m a (wdN r dd) 0 = e0 at h0 HTW HH0 ⊢
     have e9 : (e0 == 0) = false := beq_eq_false_iff_ne.2 h0
     have e8 : (e0 != 0) = true := bne_iff_ne.2 h0
     clear T hbb hv hpE h0 ha e1 e2
     go_enter Tryz.func66, Tryz.ntmps66
     go_wp2_with (first
       | (go_at_call 60; refine (d_made (HT.out.kp0 HK0.out)).mono ?_; rintro e w1 ⟨rfl, h1⟩; have HK1 := hid (HK0.out.chain (Kp.of_drewN h1)); have hb1 := HB0.out.kp (Kp.of_drewN h1) (by simp); have c0 := hb1.cell 0; have c1 := hb1.cell 1; have c2 := hb1.cell 2; have HB1 := hid hb1; clear h1 hb1)
       | (go_at_call 136; refine (r_valid (r : Int) (dd : Int) (kd : Int) _).mono ?_; rintro e w2 ⟨rfl, K2⟩; rw [HV.out]; have HK2 := hid (HK1.out.chain K2); have hb2 := HB1.out.kp K2 (by simp); have d0 := hb2.cell 0; have d1 := hb2.cell 1; have d2 := hb2.cell 2; clear K2 hb2)
       | (go_at_call 137; refine (HTW.out _ HK2.out).mono ?_; rintro e w3 ⟨rfl, K3⟩; have HK3 := hid (HK2.out.chain K3); clear K3))
     go_ret2
     exact ⟨rfl, (DChg.same HT.out HK3.out).mono (by omega)⟩
end
theorem infoMove : (Tryz.prog.info? 150).map (fun i => (i.zero, i.size, i.bytes)) = some (some (.agg #[.int .i64 0, .int .i64 0]), 2, 16) := by kernel_rfl
section
variable {w w' W w4 w7 : World} {d : DB} {q q' : Nat} {m m' : HM}
end
section
variable {w w' W : World} {d : DB} {q : Nat} {m : HM}
end
end Go.Proofs.YthndilllnneijaaGreat
