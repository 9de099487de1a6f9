/-
  The contract of package heap's Place. Conditions: those that stand in each theorem.
-/
import Derived.Test.YthndilllnneijaaGreatPG6
import Derived.Deep.RegionHeld3
set_option linter.unusedSimpArgs false
set_option linter.unusedVariables false
set_option maxRecDepth 100000
set_option maxHeartbeats 4000000
namespace Go.Proofs.YthndilllnneijaaGreat
open Go.RowKit Go.Deep Go.Maps
def HM.newOb (m : HM) (r d k : Int) : Ob := ⟨m.born + 1, r.toNat, d.toNat, k.toNat, List.replicate (r.toNat + d.toNat) 0, false⟩
def HM.bear (m : HM) : HM := { m with born := m.born + 1 }
def HM.placeE (m : HM) (a r d k : Int) : Int := if vldB r d k then roomE m a (wdN r.toNat d.toNat) 0 else 2
def HM.placeM (m : HM) (a r d k : Int) : HM := if m.placeE a r d k = 0 then m.bear.add a.toNat (m.newOb r d k) else m
def HM.placeV (m : HM) (a r d k : Int) : Int := if m.placeE a r d k = 0 then ((m.born + 1 : Nat) : Int) else 0
def SrcAt (w : World) (gb : Nat) (gs : List Int) : Prop := ∀ j v, (zcells gs)[j]? = some v → w.cell? ⟨gb, j, none⟩ = some v
section
variable {w w' : World} {b : HB} {r : RM} {m : HM} {q : Nat}
theorem SrcAt.kp {w W : World} {gb : Nat} {gs : List Int} (h : SrcAt w gb gs) (k : Kp [] w W) : SrcAt W gb gs := fun j v hv => cell_kp k (h j v hv)
theorem SrcAt.new (w : World) (gs : List Int) : SrcAt (w.alloc (.cells (zcells gs).toArray 3)) w.heap.size gs := fun j v hv => by
 have := (Blk.new w 3 (zcells gs).toArray).cell j
 rw [this]
 simpa using hv
theorem HM.Inv.bear (I : m.Inv) : m.bear.Inv := ⟨I.len2, I.len64, I.b0, I.free0, I.even, I.ok, fun a o h => by have := I.idb a o h; show o.id ≤ m.born + 1; omega, I.lie, I.apart, I.ids⟩
theorem Abs.bear (A : Abs r m) : Abs { r with born := r.born + 1 } m.bear := ⟨A.inv.bear, A.bl, by show r.born + 1 = m.born + 1; rw [A.born], ⟨A.rep.w_ob, A.rep.w_gap, A.rep.p_ob, A.rep.p_in, A.rep.p_gap, A.rep.n_ob, A.rep.n_gap⟩, A.dp, A.df, A.fs⟩
theorem place_model (I : m.Inv) {t x d k : Nat} (hv : vldB x d k = true) (he : t % 2 = 0) (hs : suitB m.bl t (wdN x d) = true) (hk : tkB m 0 t (wdN x d / 2) = false) :
   m.bear.free t (wdN x d) ∧ (m.bear.add t (m.newOb x d k)).Inv ∧ (m.newOb x d k).Ok := by
 have hb := vldB_bd hv
 have hw := wdN_bd hb.1 hb.2.1
 have hok : (m.newOb x d k).Ok := ⟨by simpa [HM.newOb] using hv, by simp [HM.newOb], by simp [HM.newOb]⟩
 have hf : m.bear.free t (wdN x d) := by
   rintro y h1 h2 ⟨a, o, h3, h4, h5⟩
   have h6 := free_of I he hw.2.2.1 hk h1 h2 h3 h4 h5
   have := I.lo h3
   omega
 have hwd : (m.newOb x d k).wd = wdN x d := by simp [HM.newOb, Ob.wd]
 refine ⟨hf, I.bear.add hok he (by rw [hwd]; exact hs) (by rw [hwd]; exact hf) (fun a o h hid => ?_) (Nat.le_refl _), hok⟩
 have := I.idb a o h
 have h2 : o.id = m.born + 1 := hid
 omega
structure PS (w W : World) (b : HB) (r1 : RM) (x d k : Int) : Prop where
 raw : Raw W b r1
 box : Blk W w.heap.size 33 #[.int .i64 x, .int .i64 d, .int .i64 k]
 kp : Kp [b.g] w W
 lt : ∀ y ∈ b.all, y < w.heap.size
theorem PS.x0 {W : World} {r1 : RM} {x d k : Int} (p : PS w W b r1 x d k) : W.cell? ⟨w.heap.size, 0, none⟩ = some (.int .i64 x) := p.box.cell 0
theorem PS.x1 {W : World} {r1 : RM} {x d k : Int} (p : PS w W b r1 x d k) : W.cell? ⟨w.heap.size, 1, none⟩ = some (.int .i64 d) := p.box.cell 1
theorem PS.x2 {W : World} {r1 : RM} {x d k : Int} (p : PS w W b r1 x d k) : W.cell? ⟨w.heap.size, 2, none⟩ = some (.int .i64 k) := p.box.cell 2
theorem PS.kp0 {W W' : World} {r1 : RM} {x d k : Int} (p : PS w W b r1 x d k) (h : Kp [] W W') : PS w W' b r1 x d k := ⟨p.raw.kp0 h, p.box.kp h (by simp), p.kp.chain h, p.lt⟩
theorem PS.drew {W : World} {r1 : RM} {x d k : Int} (p : PS w W b r1 x d k) : PS w W.drew b r1 x d k := p.kp0 (Kp.draw W 1)
theorem PS.start {W : World} {x d k : Int} (R : Raw w b r) (B : Blk W w.heap.size 33 #[.int .i64 x, .int .i64 d, .int .i64 k]) {n : Nat} {V : World} (K : Kp [] w V) (hV : V = W.drewN n) :
   PS w (V.setCell ⟨b.g, 6, none⟩ (.int .i64 ((r.born + 1 : Nat) : Int))) b { r with born := r.born + 1 } x d k := by
 have hlt := R.lt
 refine ⟨(R.kp0 K).setBorn (r.born + 1), ?_, K.chain0 (Kp.cell V ⟨b.g, 6, none⟩ _), hlt⟩
 refine Blk.kp (w := V) ?_ (Kp.cell V ⟨b.g, 6, none⟩ _) ?_
 · rw [hV]; exact B
 · have := hlt b.g (by simp [HB.all])
   simp; omega
theorem PS.far {W : World} {r1 : RM} {x d k : Int} (p : PS w W b r1 x d k) : ∀ y ∈ b.all, W.heap.size ≠ y := fun y hy => Nat.ne_of_gt (Nat.lt_of_lt_of_le (p.lt y hy) p.kp.size)
theorem PS.over {W V : World} {r1 : RM} {x d k : Int} (p : PS w W b r1 x d k) (h : Kp [b.hw, b.ph, b.mp] W V) :
   V.cell? ⟨w.heap.size, 0, none⟩ = some (.int .i64 x) ∧ V.cell? ⟨w.heap.size, 1, none⟩ = some (.int .i64 d) ∧ V.cell? ⟨w.heap.size, 2, none⟩ = some (.int .i64 k) ∧ Kp b.all w V := by
 have hn : w.heap.size ∉ [b.hw, b.ph, b.mp] := by
   have h1 := p.lt b.hw (by simp [HB.all])
   have h2 := p.lt b.ph (by simp [HB.all])
   have h3 := p.lt b.mp (by simp [HB.all])
   simp; omega
 have B := p.box.kp h hn
 exact ⟨B.cell 0, B.cell 1, B.cell 2, (p.kp.all b (by simp [HB.all])).trans (h.all b (by simp [HB.all])) (fun x hx => .inl hx) (fun x hx => .inl hx)⟩
theorem h_place (h : SH w b q m) (a x d k : Int) (ha : W64 a) (hq : q ≤ 900000000) :
   Calls Tryz.prog 44 #[.pointer (some ⟨b.g, 0, none⟩), .int .i64 a, .agg #[.int .i64 x, .int .i64 d, .int .i64 k]] w fun e w' => e = .returned (.tuple #[.int .i64 (m.placeV a x d k), .int .i64 (m.placeE a x d k)]) ∧ SH w' b (q + 1) (m.placeM a x d k) ∧ Kp b.all w w' := by
 have HA := hid ha
 have B0 := hid (Blk.new w 33 #[.int .i64 x, .int .i64 d, .int .i64 k])
 have K0 := hid (Kp.new w (.cells #[.int .i64 x, .int .i64 d, .int .i64 k] 33))
 clear ha
 rcases hv : vldB x d k
 · have e1 : m.placeE a x d k = 2 := by simp [HM.placeE, hv]
   have e2 : m.placeV a x d k = 0 := by simp [HM.placeV, e1]
   have e3 : m.placeM a x d k = m := by simp [HM.placeM, e1]
   rw [e1, e2, e3]
   have HV := hid hv
   clear e1 e2 e3 hv
   go_enter Tryz.func44, Tryz.ntmps44
   go_wp2_with (first | (go_at_call 55; refine (h.kp0 K0.out).made.mono ?_; rintro e w' ⟨rfl, n1, rfl⟩) | (go_at_call 42; refine (h_valid x d k _).mono ?_; rintro e w1 ⟨rfl, K1⟩; rw [HV.out]; have HK := hid K1.from_drewN; clear K1))
   go_ret2
   exact ⟨rfl, (h.kp0 (K0.out.chain HK.out)).mono (by omega), (K0.out.chain HK.out).mono (by simp)⟩
 · obtain ⟨x, d, k, rfl, rfl, rfl, hb1, hb2, hb3⟩ := vldB_nat hv
   have hwd := wdN_bd hb1 hb2
   have e1 : m.placeE a x d k = roomE m a (wdN x d) 0 := by simp [HM.placeE, hv]
   have HWI : Hid (wordsI x d k = ((wdN x d : Nat) : Int)) := by show _ = _; simp [wordsI, hv]
   have HRM : Hid (∀ (W : World), SH W b q m → Calls Tryz.prog 118 #[.pointer (some ⟨b.g, 0, none⟩), .int .i64 a, .int .i64 ((wdN x d : Nat) : Int), .int .i64 0] W fun e w' => e = .returned (.int .i64 (roomE m a (wdN x d) 0)) ∧ ∃ n, w' = W.drewN n) := fun W SW =>
     h_room SW a HA.out (wdN x d) 0 (by omega) hwd.2.2.1 (by omega) (by omega)
   have HV := hid hv
   by_cases hz : roomE m a (wdN x d) 0 = 0
   · obtain ⟨t, rfl, ht2, htn, hsu, htk⟩ := roomE_zero hz
     have e2 : m.placeV (t : Int) x d k = ((m.born + 1 : Nat) : Int) := by unfold HM.placeV; rw [e1, if_pos hz]
     have e3 : m.placeM (t : Int) x d k = m.bear.add t (m.newOb x d k) := by unfold HM.placeM; rw [e1, if_pos hz, Int.toNat_natCast]
     rw [e1, e2, e3, hz]
     obtain ⟨hfree, hinv, hok⟩ := place_model (k := k) h.inv hv ht2 hsu htk
     have h0 := h
     obtain ⟨r, R, A, hq1, hq2⟩ := h
     have HZ := hid hz
     have hthi := (suit_bd hsu).2.1
     have hwl := A.wl R
     have HPOST : Hid (∀ W, Raw W b ({ r with born := r.born + 1 }.cover t (wdN x d) [((r.born + 1 : Nat) : Int), ((shN x d k : Nat) : Int)]) → SH W b (q + 1) (m.bear.add t (m.newOb x d k))) := fun W RW => by
       refine ⟨_, RW, ?_, by show r.q + 1 ≤ _; omega, by show r.born + 1 ≤ _; omega⟩
       have hwd' : (m.newOb x d k).wd = wdN x d := by simp [HM.newOb, Ob.wd]
       have hb := A.born
       have := A.bear.cover (o := m.newOb x d k) (R.setBorn (r.born + 1)) hinv hok ht2 (by rw [hwd']; exact hfree) rfl (by rw [hwd']; exact hthi) (gs := [((r.born + 1 : Nat) : Int), ((shN x d k : Nat) : Int)]) (by rw [hwd']; exact hwd.1) (fun j hj => by
         rcases j with _ | _ | j
         · show ((r.born + 1 : Nat) : Int) = ((m.born + 1 : Nat) : Int)
           rw [hb]
         · show ((shN x d k : Nat) : Int) = ((m.newOb x d k).sh : Int)
           simp [Ob.sh, HM.newOb]
         · show (0 : Int) = (m.newOb x d k).fs.getD (j + 2 - 2) 0
           simp [HM.newOb, List.getD_eq_getElem?_getD, List.getElem?_replicate]
           split <;> rfl) ⟨by show _ ≤ ((m.born + 1 : Nat) : Int); omega, by show ((m.born + 1 : Nat) : Int) ≤ _; omega⟩
       rw [hwd'] at this
       exact this
     have hc6 := (R.kp0 K0.out).c6
     have hbn : r.born ≤ 900000000 := by omega
     have HBN : Hid (((r.born : Int) + 1) = ((r.born + 1 : Nat) : Int)) := by show _ = _; omega
     have HBM : Hid (m.born = r.born) := A.born.symm
     have HWD := hid hwd
     have HID : Hid (W64 (([((r.born + 1 : Nat) : Int), ((shN x d k : Nat) : Int)] : List Int).getD 0 0)) := ⟨by show _ ≤ ((r.born + 1 : Nat) : Int); omega, by show ((r.born + 1 : Nat) : Int) ≤ _; omega⟩
     have HT2 := hid ht2
     have HCB : Hid (t + wdN x d ≤ r.ws.length) := by show _ ≤ _; rw [hwl]; exact hthi
     have hq3 : r.q < 1000000000 := by omega
     clear e1 e2 e3 hv hz hfree hinv hok ht2 hsu htk hthi hwl htn hwd A hq2 hq1
     have HCV : Hid (∀ W gb, Raw W b { r with born := r.born + 1 } → SrcAt W gb [((r.born + 1 : Nat) : Int), ((shN x d k : Nat) : Int)] → (∀ y ∈ b.all, gb ≠ y) →
         Calls Tryz.prog 119 #[.pointer (some ⟨b.g, 0, none⟩), .int .i64 (t : Int), .slice (some ⟨gb, 0, none⟩) 2 2, .int .i64 ((wdN x d : Nat) : Int)] W fun e w' => e = .returned (.tuple #[]) ∧ Raw w' b ({ r with born := r.born + 1 }.cover t (wdN x d) [((r.born + 1 : Nat) : Int), ((shN x d k : Nat) : Int)]) ∧ Kp [b.hw, b.ph, b.mp] W w') :=
       fun W gb RW SW FW => h_cover (cap := 2) (gs := [((r.born + 1 : Nat) : Int), ((shN x d k : Nat) : Int)]) RW t (wdN x d) gb HCB.out HT2.out HWD.out.2.2.1 HWD.out.1 (show 1 ≤ 2 from Nat.le_succ 1) HWD.out.1 (show 2 ≤ 2 from Nat.le_refl 2) HID.out SW FW hq3
     go_enter Tryz.func44, Tryz.ntmps44
     go_wp2_with (first
       | (go_at_call 55; refine (h0.kp0 K0.out).made.mono ?_; rintro e w' ⟨rfl, n1, rfl⟩)
       | (go_at_call 42; refine (h_valid x d k _).mono ?_; rintro e w1 ⟨rfl, K1⟩; rw [HV.out]; have HK := hid (K0.out.chain K1.from_drewN); have B1 := hid (B0.out.kp K1.from_drewN (by simp)); clear K1; have q0 := B1.out.cell 0; have q1 := B1.out.cell 1; have q2 := B1.out.cell 2)
       | (go_at_call 37; refine (h_words x d k _).mono ?_; rintro e w2 ⟨rfl, K2⟩; rw [HWI.out]; have HK2 := hid (HK.out.chain K2); have B2 := hid (B1.out.kp K2 (by simp)); clear K2; have p0 := B2.out.cell 0; have p1 := B2.out.cell 1; have p2 := B2.out.cell 2; have hc6b := (R.kp0 HK2.out).c6; have hf6b := (R.kp0 HK2.out).G.frozen 6; have hne : w.heap.size ≠ b.g := fun hc => by have := R.G.lt; omega)
       | (go_at_call 118; refine (HRM.out _ (h0.kp0 HK2.out)).mono ?_; rintro e w' ⟨rfl, n2, rfl⟩; rw [HZ.out]))
     rw [HBN.out]
     have P0 := hid (PS.start R (B2.out) (HK2.out.drewN n2) rfl)
     have hc6r := P0.out.drew.raw.c6
     clear hc6 hc6b hf6b q0 q1 q2 p0 p1 p2 hne
     generalize (w2.drewN n2).setCell ⟨b.g, 6, none⟩ (.int .i64 ((r.born + 1 : Nat) : Int)) = W4 at P0 hc6r ⊢
     have PD := P0.out.drew
     have s0 := PD.x0
     have s1 := PD.x1
     have s2 := PD.x2
     have s3 := PD.raw.c6
     go_region_held3 (fun W => W.cell? ⟨b.g, 6, none⟩ = some (.int .i64 ((r.born + 1 : Nat) : Int)) ∧ W.cell? ⟨w.heap.size, 0, none⟩ = some (.int .i64 (x : Int)) ∧ W.cell? ⟨w.heap.size, 1, none⟩ = some (.int .i64 (d : Int)) ∧ W.cell? ⟨w.heap.size, 2, none⟩ = some (.int .i64 (k : Int))) (go_keep)
       (first
         | (go_at_call 120; refine (h_shapeWord x d k _ hb1 hb2 hb3).mono ?_; rintro e wA ⟨rfl, KA⟩; have PA := PS.kp0 (by assumption) KA; have t0 := PA.x0; have t1 := PA.x1; have t2 := PA.x2; have t3 := PA.raw.c6)
         | (go_at_call 37; refine (h_words x d k _).mono ?_; rintro e wB ⟨rfl, KB⟩; rw [HWI.out]; first | (have PB := PS.kp0 (by assumption) KB; have u0 := PB.x0; have u1 := PB.x1; have u2 := PB.x2; have u3 := PB.raw.c6) | (have PB := PS.kp0 (PS.kp0 (by assumption) (Kp.new _ _)) KB; have SB := (SrcAt.new _ [((r.born + 1 : Nat) : Int), ((shN x d k : Nat) : Int)]).kp KB; have u0 := PB.x0; have u1 := PB.x1; have u2 := PB.x2; have u3 := PB.raw.c6))
         | (go_at_call 119; refine (HCV.out _ _ ?_ ?_ ?_).mono ?_; (first | exact PS.raw (by assumption) | exact PS.raw (PS.kp0 (by assumption) (Kp.new _ _))); (first | exact (show SrcAt _ _ [((r.born + 1 : Nat) : Int), ((shN x d k : Nat) : Int)] by assumption) | exact SrcAt.new _ [((r.born + 1 : Nat) : Int), ((shN x d k : Nat) : Int)]); (first | exact PS.far (by assumption)); rintro e w5 ⟨rfl, R5, K5⟩; first | (obtain ⟨z0, z1, z2, KZ⟩ := PS.over (by assumption) K5; have z3 : w5.cell? ⟨b.g, 6, none⟩ = some (.int .i64 ((r.born + 1 : Nat) : Int)) := R5.c6; have HR5 := hid R5; have HKZ := hid KZ; clear R5 K5 KZ) | (obtain ⟨z0, z1, z2, KZ⟩ := PS.over (PS.kp0 (by assumption) (Kp.new _ _)) K5; have z3 : w5.cell? ⟨b.g, 6, none⟩ = some (.int .i64 ((r.born + 1 : Nat) : Int)) := R5.c6; have HR5 := hid R5; have HKZ := hid KZ; clear R5 K5 KZ)))
     all_goals (
       go_wp2
       go_ret2
       rw [HBM.out]
       exact ⟨rfl, HPOST.out _ HR5.out, HKZ.out⟩)
   · have e2 : m.placeV a x d k = 0 := by unfold HM.placeV; rw [e1, if_neg hz]
     have e3 : m.placeM a x d k = m := by unfold HM.placeM; rw [e1, if_neg hz]
     rw [e1, e2, e3]
     have f1 : (roomE m a (wdN x d) 0 != 0) = true := bne_iff_ne.2 hz
     clear e1 e2 e3 hv hz
     go_enter Tryz.func44, Tryz.ntmps44
     go_wp2_with (first
       | (go_at_call 55; refine (h.kp0 K0.out).made.mono ?_; rintro e w' ⟨rfl, n1, rfl⟩)
       | (go_at_call 42; refine (h_valid x d k _).mono ?_; rintro e w1 ⟨rfl, K1⟩; rw [HV.out]; have HK := hid K1.from_drewN; have B1 := hid (B0.out.kp K1.from_drewN (by simp)); clear K1; have q0 := B1.out.cell 0; have q1 := B1.out.cell 1; have q2 := B1.out.cell 2)
       | (go_at_call 37; refine (h_words x d k _).mono ?_; rintro e w2 ⟨rfl, K2⟩; rw [HWI.out]; have HK2 := hid K2; clear K2)
       | (go_at_call 118; refine (HRM.out _ (h.kp0 ((K0.out.chain HK.out).chain HK2.out))).mono ?_; rintro e w' ⟨rfl, n2, rfl⟩))
     go_ret2
     exact ⟨rfl, ((h.kp0 ((K0.out.chain HK.out).chain HK2.out)).drewN _).mono (by omega), (((K0.out.chain HK.out).chain HK2.out).drewN _).mono (by simp)⟩
end
def rangeL (bl : List (Nat × Nat)) (b : Nat) (v : Nat × Nat) : Nat → List (Nat × Nat)
 | 0 => bl
 | n + 1 => (rangeL bl b v n).set (b + n) v
@[simp] theorem rangeL_length (bl : List (Nat × Nat)) (b : Nat) (v : Nat × Nat) (n : Nat) : (rangeL bl b v n).length = bl.length := by
 induction n with
 | zero => rfl
 | succ n ih => simp [rangeL, ih]
theorem getD_set (bl : List (Nat × Nat)) (i j : Nat) (v : Nat × Nat) (hi : i < bl.length) : (bl.set i v).getD j (0, 0) = if j = i then v else bl.getD j (0, 0) := by
 simp only [List.getD_eq_getElem?_getD, List.getElem?_set]
 by_cases h : i = j
 · subst h; simp [hi]
 · rw [if_neg h, if_neg (by omega)]
theorem rangeL_get (bl : List (Nat × Nat)) (b : Nat) (v : Nat × Nat) (n j : Nat) (h : b + n ≤ bl.length) : (rangeL bl b v n).getD j (0, 0) = if b ≤ j ∧ j < b + n then v else bl.getD j (0, 0) := by
 induction n with
 | zero => rw [if_neg (by omega)]; rfl
 | succ n ih =>
   unfold rangeL
   rw [getD_set _ _ _ _ (by simp; omega), ih (by omega)]
   by_cases h1 : j = b + n
   · rw [if_pos h1, if_pos (by omega)]
   · rw [if_neg h1]
     by_cases h2 : b ≤ j ∧ j < b + n
     · rw [if_pos h2, if_pos (by omega)]
     · rw [if_neg h2, if_neg (by omega)]
def spaceL (bl : List (Nat × Nat)) (b s : Nat) : Nat → List (Nat × Nat)
 | 0 => bl
 | n + 1 => (spaceL bl b s n).set (b + n) (((spaceL bl b s n).getD (b + n) (0, 0)).1, s)
@[simp] theorem spaceL_length (bl : List (Nat × Nat)) (b s n : Nat) : (spaceL bl b s n).length = bl.length := by
 induction n with
 | zero => rfl
 | succ n ih => simp [spaceL, ih]
theorem spaceL_get (bl : List (Nat × Nat)) (b s n j : Nat) (h : b + n ≤ bl.length) : (spaceL bl b s n).getD j (0, 0) = if b ≤ j ∧ j < b + n then ((bl.getD j (0, 0)).1, s) else bl.getD j (0, 0) := by
 induction n with
 | zero => rw [if_neg (by omega)]; rfl
 | succ n ih =>
   unfold spaceL
   have ih' := ih (by omega)
   rw [getD_set _ _ _ _ (by simp; omega)]
   by_cases h1 : j = b + n
   · subst h1
     rw [if_pos rfl, if_pos (by omega), ih', if_neg (by omega)]
   · rw [if_neg h1, ih']
     by_cases h2 : b ≤ j ∧ j < b + n
     · rw [if_pos h2, if_pos (by omega)]
     · rw [if_neg h2, if_neg (by omega)]
theorem grp_congr {bl bl' : List (Nat × Nat)} (hl : bl'.length = bl.length) {x : Nat} (hx : x < bl.length) (h : ∀ i, x < i → i ≤ grpEnd bl x → i < bl.length → ((bl'.getD i (0, 0)).1 = 3 ↔ (bl.getD i (0, 0)).1 = 3)) : grpEnd bl' x = grpEnd bl x := by
 obtain ⟨h1, h2, h3, h4⟩ := (grpEnd_iff bl x _ hx).1 rfl
 refine (grpEnd_iff bl' x _ (by omega)).2 ⟨h1, by omega, fun i hi hj => (h i hi (by omega) (by omega)).2 (h3 i hi hj), fun he hc => h4 (by omega) ((h _ (by omega) (Nat.le_refl _) (by omega)).1 hc)⟩
theorem suit_congr {bl bl' : List (Nat × Nat)} {a wd : Nat} (hs : suitB bl a wd = true) (h0 : (bl'.getD (a / 64) (0, 0)).1 = (bl.getD (a / 64) (0, 0)).1) (hg : (bl.getD (a / 64) (0, 0)).1 = 2 → grpEnd bl' (a / 64) = grpEnd bl (a / 64)) : suitB bl' a wd = true := by
 unfold suitB at hs ⊢
 rw [h0]
 split
 · rename_i h
   rw [if_pos h] at hs
   exact hs
 · rename_i h
   rw [if_neg h] at hs
   rw [hg (of_decide_eq_true hs).1]
   exact hs
theorem suit_st {bl : List (Nat × Nat)} {a wd : Nat} (hs : suitB bl a wd = true) : (bl.getD (a / 64) (0, 0)).1 = 1 ∨ (bl.getD (a / 64) (0, 0)).1 = 2 := by
 unfold suitB at hs
 split at hs
 · exact .inl (of_decide_eq_true hs).1
 · exact .inr (of_decide_eq_true hs).1
def HM.setBl (m : HM) (bl : List (Nat × Nat)) : HM := { m with bl := bl }
section
variable {m : HM} {r : RM}
theorem HM.Inv.setBl (I : m.Inv) {bl : List (Nat × Nat)} (hl : bl.length = m.bl.length) (h0 : (bl.getD 0 (0, 0)).1 = 0) (hf : ∀ b, (bl.getD b (0, 0)).1 = 0 → (bl.getD b (0, 0)).2 = 0) (hs : ∀ a o, m.ob a = some o → suitB bl a o.wd = true) : (m.setBl bl).Inv :=
 ⟨by show 2 ≤ bl.length; rw [hl]; exact I.len2, by show bl.length ≤ 64; rw [hl]; exact I.len64, h0, hf, I.even, I.ok, I.idb, hs, I.apart, I.ids⟩
theorem Abs.setBl (A : Abs r m) {bl : List (Nat × Nat)} (hl : bl.length = m.bl.length) (I : (m.setBl bl).Inv) : Abs { r with bl := bl } (m.setBl bl) := by
 have ea : (m.setBl bl).atI = m.atI := by
   funext i
   unfold HM.atI HM.at_ HM.n HM.setBl
   simp only [hl]
 exact ⟨I, rfl, A.born, ⟨A.rep.w_ob, A.rep.w_gap, A.rep.p_ob, A.rep.p_in, A.rep.p_gap, A.rep.n_ob, A.rep.n_gap⟩, by rw [ea]; exact A.dp, A.df, A.fs⟩
def freeB (m : HM) (b n : Nat) : Bool := (List.range n).all fun i => decide (m.st (b + i) = 0)
theorem freeB_true {b n : Nat} : freeB m b n = true ↔ ∀ i, i < n → m.st (b + i) = 0 := by
 unfold freeB
 rw [List.all_eq_true]
 constructor
 · intro h i hi; exact of_decide_eq_true (h i (List.mem_range.2 hi))
 · intro h i hi; exact decide_eq_true (h i (List.mem_range.1 hi))
theorem freeB_false {b n i : Nat} (hi : i < n) (h : m.st (b + i) ≠ 0) : freeB m b n = false := by
 rcases hf : freeB m b n
 · rfl
 · exact absurd ((freeB_true.1 hf) i hi) h
def claimL (bl : List (Nat × Nat)) (b n s st : Nat) : List (Nat × Nat) := (rangeL bl b (3, s) n).set b (st, s)
theorem claimL_length (bl : List (Nat × Nat)) (b n s st : Nat) : (claimL bl b n s st).length = bl.length := by simp [claimL]
theorem claimL_get {bl : List (Nat × Nat)} {b n s st : Nat} (hn : 1 ≤ n) (h : b + n ≤ bl.length) (j : Nat) : (claimL bl b n s st).getD j (0, 0) = if j = b then (st, s) else if b ≤ j ∧ j < b + n then (3, s) else bl.getD j (0, 0) := by
 unfold claimL
 rw [getD_set _ _ _ _ (by simp; omega), rangeL_get _ _ _ _ _ h]
theorem claim_inv (I : m.Inv) {b n s st : Nat} (hb : 1 ≤ b) (hn : 1 ≤ n) (h : b + n ≤ m.bl.length) (hf : ∀ i, i < n → m.st (b + i) = 0) (hst : st = 1 ∨ st = 2) : (m.setBl (claimL m.bl b n s st)).Inv := by
 have G := fun j => claimL_get (bl := m.bl) (s := s) (st := st) hn h j
 refine I.setBl (claimL_length _ _ _ _ _) ?_ ?_ ?_
 · rw [G, if_neg (by omega), if_neg (by omega)]
   exact I.b0
 · intro j hj
   rw [G] at hj ⊢
   by_cases h1 : j = b
   · rw [if_pos h1] at hj
     simp only at hj
     omega
   · rw [if_neg h1] at hj ⊢
     by_cases h2 : b ≤ j ∧ j < b + n
     · rw [if_pos h2] at hj
       simp only at hj
       omega
     · rw [if_neg h2] at hj ⊢
       exact I.free0 j hj
 · intro a o ho
   have hs := I.lie a o ho
   have hx := suit_st hs
   have hxl := (suit_bd hs).1
   have hnr : ∀ j, m.st j ≠ 0 → ¬ (b ≤ j ∧ j < b + n) := fun j hj hc => hj (by have := hf (j - b) (by omega); rwa [show b + (j - b) = j by omega] at this)
   have hxr := hnr (a / 64) (by show (m.bl.getD (a / 64) (0, 0)).1 ≠ 0; omega)
   refine suit_congr hs ?_ (fun _ => ?_)
   · rw [G, if_neg (by omega), if_neg hxr]
   · refine grp_congr (claimL_length _ _ _ _ _) hxl (fun i h1 h2 h3 => ?_)
     rw [G]
     obtain ⟨g1, g2, g3, g4⟩ := (grpEnd_iff m.bl (a / 64) _ hxl).1 rfl
     by_cases h4 : i = b
     · rw [if_pos h4]
       have h5 : (m.bl.getD i (0, 0)).1 = 0 := by have := hf 0 (by omega); rw [h4]; exact this
       simp only
       omega
     · rw [if_neg h4]
       by_cases h5 : b ≤ i ∧ i < b + n
       · have h6 : (m.bl.getD i (0, 0)).1 = 0 := by have := hf (i - b) (by omega); rwa [show b + (i - b) = i by omega] at this
         exfalso
         have h7 := g3 (i - 1) (by omega) (by omega)
         have h8 := hf (i - 1 - b) (by omega)
         rw [show b + (i - 1 - b) = i - 1 by omega] at h8
         unfold HM.st at h8
         omega
       · rw [if_neg h5]
theorem release_inv (I : m.Inv) {b : Nat} (hb : 1 ≤ b) (hbl : b < m.bl.length) (hst : m.st b = 1 ∨ m.st b = 2) (ho : ∀ a o, m.ob a = some o → a / 64 ≠ b) : (m.setBl (rangeL m.bl b (0, 0) (grpEnd m.bl b - b))).Inv := by
 obtain ⟨g1, g2, g3, g4⟩ := (grpEnd_iff m.bl b _ hbl).1 rfl
 have G := fun j => rangeL_get m.bl b (0, 0) (grpEnd m.bl b - b) j (by omega)
 refine I.setBl (rangeL_length _ _ _ _) ?_ ?_ ?_
 · rw [G, if_neg (by omega)]
   exact I.b0
 · intro j hj
   rw [G] at hj ⊢
   by_cases h2 : b ≤ j ∧ j < b + (grpEnd m.bl b - b)
   · rw [if_pos h2]
   · rw [if_neg h2] at hj ⊢
     exact I.free0 j hj
 · intro a o hao
   have hs := I.lie a o hao
   have hx := suit_st hs
   have hxl := (suit_bd hs).1
   have hxb := ho a o hao
   have hxr : ¬ (b ≤ a / 64 ∧ a / 64 < b + (grpEnd m.bl b - b)) := fun hc => by
     have := g3 (a / 64) (by omega) (by omega)
     omega
   refine suit_congr hs ?_ (fun _ => ?_)
   · rw [G, if_neg hxr]
   · refine grp_congr (rangeL_length _ _ _ _) hxl (fun i h1 h2 h3 => ?_)
     rw [G]
     obtain ⟨e1, e2, e3, e4⟩ := (grpEnd_iff m.bl (a / 64) _ hxl).1 rfl
     by_cases h5 : b ≤ i ∧ i < b + (grpEnd m.bl b - b)
     · rw [if_pos h5]
       constructor
       · intro h; cases h
       · intro h
         exfalso
         by_cases hxlt : a / 64 < b
         · by_cases hib : i = b
           · subst hib
             unfold HM.st at hst
             omega
           · have := e3 b (by omega) (by omega)
             unfold HM.st at hst
             omega
         · omega
     · rw [if_neg h5]
theorem retag_inv (I : m.Inv) {b n s : Nat} (hb : 1 ≤ b) (h : b + n ≤ m.bl.length) (hn : ∀ i, i < n → m.st (b + i) ≠ 0) : (m.setBl (spaceL m.bl b s n)).Inv := by
 have G := fun j => spaceL_get m.bl b s n j h
 have G1 : ∀ j, ((spaceL m.bl b s n).getD j (0, 0)).1 = (m.bl.getD j (0, 0)).1 := fun j => by rw [G]; split <;> rfl
 refine I.setBl (spaceL_length _ _ _ _) ?_ ?_ ?_
 · rw [G1]; exact I.b0
 · intro j hj
   rw [G1] at hj
   rw [G]
   by_cases h2 : b ≤ j ∧ j < b + n
   · have := hn (j - b) (by omega)
     rw [show b + (j - b) = j by omega] at this
     exact absurd hj this
   · rw [if_neg h2]
     exact I.free0 j hj
 · intro a o ho
   have hs := I.lie a o ho
   have hxl := (suit_bd hs).1
   exact suit_congr hs (G1 _) (fun _ => grp_congr (spaceL_length _ _ _ _) hxl (fun i _ _ _ => by rw [G1]))
end
def claimOk (m : HM) (x n s : Int) : Bool := blkB m.bl.length x && decide (1 ≤ n ∧ n ≤ (m.bl.length : Int) - x) && spcB s
def takenE (m : HM) (x n : Nat) : Int := if freeB m x n then 0 else 8
def HM.claimE (m : HM) (x n s : Int) : Int := if claimOk m x n s then takenE m x.toNat n.toNat else 1
def HM.tkM (m : HM) (k n s st : Nat) : HM := if takenE m k n = 0 then m.setBl (claimL m.bl k n s st) else m
def HM.claimM (m : HM) (x n s : Int) (st : Nat) : HM := if m.claimE x n s = 0 then m.setBl (claimL m.bl x.toNat n.toNat s.toNat st) else m
section
variable {w w' : World} {b : HB} {r : RM} {m : HM} {q : Nat}
theorem blkB_nat {n : Nat} {i : Int} (h : blkB n i = true) : ∃ k : Nat, i = (k : Int) ∧ 1 ≤ k ∧ k < n := by
 have := of_decide_eq_true h
 exact ⟨i.toNat, by omega, by omega, by omega⟩
theorem h_claim (h : SH w b q m) (x n s : Int) (st : Nat) (hst : st = 1 ∨ st = 2) :
   Calls Tryz.prog 117 #[.pointer (some ⟨b.g, 0, none⟩), .int .i64 x, .int .i64 n, .int .i64 s, .int .i64 (st : Int)] w fun e w' => e = .returned (.int .i64 (m.claimE x n s)) ∧ SH w' b q (m.claimM x n s st) ∧ Kp b.all w w' := by
 have bad : claimOk m x n s = false → m.claimE x n s = 1 ∧ m.claimM x n s st = m := fun hk => by
   have : m.claimE x n s = 1 := by simp [HM.claimE, hk]
   exact ⟨this, by simp [HM.claimM, this]⟩
 have h0 := h
 obtain ⟨r, R, A, hq1, hq2⟩ := h
 have hbl := A.bl
 rcases hx : blkB m.bl.length x
 · obtain ⟨e0, e1⟩ := bad (by simp [claimOk, hx])
   rw [e0, e1]
   rw [← hbl] at hx
   have HX := hid hx
   clear e0 e1 bad hx hbl hst A
   go_enter Tryz.func117, Tryz.ntmps117
   go_wp2_with (first | (go_at_call 55; refine (h_made R).mono ?_; rintro e w' ⟨rfl, n1, rfl⟩) | (go_at_call 125; refine (h_canBeUsed (R.drewN _) _).mono ?_; rintro e w' ⟨rfl, n2, rfl⟩; rw [HX.out]))
   go_ret
   exact ⟨rfl, h0.drewN _, (Kp.draw w _).mono (by simp)⟩
 · obtain ⟨k, rfl, hk1, hk2⟩ := blkB_nat hx
   have hl64 := A.inv.len64
   have hc0 := R.c0
   have HX : Hid (blkB r.bl.length (k : Int) = true) := by rw [hbl]; exact hx
   have hk2' : k < r.bl.length := by rw [hbl]; exact hk2
   have hl64' : r.bl.length ≤ 64 := R.bl64
   by_cases hn : 1 ≤ n ∧ n ≤ (m.bl.length : Int) - (k : Int)
   · obtain ⟨n, rfl⟩ : ∃ y : Nat, n = (y : Int) := ⟨n.toNat, by omega⟩
     have hn1 : 1 ≤ n := by omega
     have hn2 : k + n ≤ m.bl.length := by omega
     have hd : decide (1 ≤ (n : Int) ∧ (n : Int) ≤ (m.bl.length : Int) - (k : Int)) = true := decide_eq_true hn
     have t1 : ((n : Int) ≤ (r.bl.length : Int) - (k : Int)) := by rw [hbl]; exact hn.2
     rcases hs : spcB s
     · obtain ⟨e0, e1⟩ := bad (by simp [claimOk, hs])
       rw [e0, e1]
       have HS := hid hs
       clear e0 e1 bad hx hbl hst A hs hd hn hn2 hk2 hl64
       go_enter Tryz.func117, Tryz.ntmps117
       go_wp2_with (first | (go_at_call 55; refine (h_made R).mono ?_; rintro e w' ⟨rfl, n1, rfl⟩) | (go_at_call 125; refine (h_canBeUsed (R.drewN _) _).mono ?_; rintro e w' ⟨rfl, n2, rfl⟩; rw [HX.out]) | (go_at_call 135; refine (h_isSpace _ _).mono ?_; rintro e w' ⟨rfl, n3, rfl⟩; rw [HS.out]))
       go_ret
       exact ⟨rfl, h0.drewN _, (Kp.draw w _).mono (by simp)⟩
     · have e0 : m.claimE (k : Int) (n : Int) s = takenE m k n := by unfold HM.claimE claimOk; rw [hx, hd, hs]; rfl
       rw [e0]
       obtain ⟨s, rfl⟩ : ∃ y : Nat, s = (y : Int) := ⟨s.toNat, by have := of_decide_eq_true hs; omega⟩
       have e1 : m.claimM (k : Int) (n : Int) (s : Int) st = m.tkM k n s st := by
         unfold HM.claimM; rw [e0]; rfl
       rw [e1]
       have HS := hid hs
       have HR := hid R
       have hcb := R.cb1
       have hcm := R.cb2
       unfold maxLen at hcm
       have HF := hid A.inv.free0
       have HST : Hid (∀ j, j < n → ∀ W, Raw W b r → W.cell? ⟨b.hb, k * 2 + j * 2, none⟩ = some (.int .i64 (m.st (k + j) : Int)) ∧ W.cell? ⟨b.hb, k * 2 + j * 2 + 1, none⟩ = some (.int .i64 (m.sp (k + j) : Int))) := fun j hj W RW => by
         have a1 := RW.stc (k := k + j) (by rw [hbl]; omega)
         have a2 := RW.spc (k := k + j) (by rw [hbl]; omega)
         rw [hbl] at a1 a2
         rw [show k * 2 + j * 2 = (k + j) * 2 by omega]
         exact ⟨a1, a2⟩
       have HI := hid A
       have hkn : (k : Int) + (n : Int) ≤ (r.bl.length : Int) := by omega
       have HN2 := hid hn2
       have d1 : decide ((n : Int) < 1) = false := decide_eq_false (by omega)
       have d2 : decide ((r.bl.length : Int) - (k : Int) < (n : Int)) = false := decide_eq_false (by omega)
       have HST0 := hid hst
       clear e0 e1 bad hx hbl hst A hs hd hn hn2 hk2 hl64
       go_enter Tryz.func117, Tryz.ntmps117
       go_wp2_with (first | (go_at_call 55; refine (h_made R).mono ?_; rintro e w' ⟨rfl, n1, rfl⟩) | (go_at_call 125; refine (h_canBeUsed (R.drewN _) _).mono ?_; rintro e w' ⟨rfl, n2, rfl⟩; rw [HX.out]) | (go_at_call 135; refine (h_isSpace _ _).mono ?_; rintro e w' ⟨rfl, n3, rfl⟩; rw [HS.out]))
       go_loopw [53] (fun c wr => ∃ j : Nat, j ≤ n ∧ c = .int .i64 (j : Int) ∧ Kp [] w wr ∧ Hid (∀ i, i < j → m.st (k + i) = 0)) (fun c _ => n - (intOf c).toNat)
       case atStart => exact ⟨0, by omega, rfl, (Kp.draw w _), (fun i hi => absurd hi (by omega))⟩
       case round =>
         obtain ⟨j, hj, rfl, K1, HJ⟩ := hrel
         by_cases hlt : j < n
         · obtain ⟨a1, a2⟩ := HST.out j hlt wr (R.kp0 K1)
           by_cases hz : m.st (k + j) = 0
           · have hz2 := HF.out _ hz
             have HJ' : Hid (∀ i, i < j + 1 → m.st (k + i) = 0) := fun i hi => by
               by_cases h4 : i < j
               · exact HJ.out i h4
               · obtain rfl : i = j := by omega
                 exact hz
             rw [hz] at a1
             rw [hz2] at a2
             have HK1 := hid K1
             clear hz hz2 K1
             go_wp2
             go_roundw
             case rel => exact ⟨j + 1, by omega, by go_num, HK1.out.chain (Kp.new _ _), HJ'⟩
             case measure => simp [intOf]; omega
           · have et : takenE m k n = 8 := by unfold takenE; rw [freeB_false hlt hz]; rfl
             have em : m.tkM k n s st = m := by unfold HM.tkM; rw [et]; rfl
             have HT := hid et
             have HM' := hid em
             have HK1 := hid K1
             generalize m.st (k + j) = s' at a1 hz
             generalize m.sp (k + j) = p' at a2
             have g1 : ((s' : Int) == 0) = false := beq_eq_false_iff_ne.2 (by omega)
             have g2 : ((s' : Int) != 0) = true := bne_iff_ne.2 (by omega)
             clear hz et em K1
             go_wp2
             go_ret
             rw [HT.out, HM'.out]
             exact ⟨rfl, h0.kp0 (HK1.out.chain (Kp.new _ _)), (HK1.out.chain (Kp.new _ _)).mono (by simp)⟩
         · obtain rfl : j = n := by omega
           have et : takenE m k j = 0 := by unfold takenE; rw [freeB_true.2 HJ.out]; rfl
           have em : m.tkM k j s st = m.setBl (claimL m.bl k j s st) := by unfold HM.tkM; rw [et]; rfl
           have HT := hid et
           have HM' := hid em
           have HFR := hid HJ.out
           have HK1 := hid K1
           clear et em K1 HJ HST
           go_wp2
           go_loopw [63] (fun c wr2 => ∃ i : Nat, i ≤ j ∧ c = .int .i64 (i : Int) ∧ Raw wr2 b { r with bl := rangeL r.bl k (3, s) i } ∧ Kp [b.hb] w wr2) (fun c _ => j - (intOf c).toNat)
           case atStart => exact ⟨0, by omega, rfl, R.kp0 HK1.out, HK1.out.mono (by simp)⟩
           case round =>
             obtain ⟨i, hi, rfl, R2, K2⟩ := hrel
             by_cases hlt2 : i < j
             · have a1 := R2.stc (k := k + i) (by simp; omega)
               have a2 := R2.spc (k := k + i) (by simp; omega)
               have f1 := R2.Bb.frozen (k * 2 + i * 2)
               have f2 := R2.Bb.frozen (k * 2 + i * 2 + 1)
               rw [show (k + i) * 2 = k * 2 + i * 2 by omega] at a1 a2
               generalize (({ r with bl := rangeL r.bl k (3, s) i } : RM).bl.getD (k + i) (0, 0)).1 = x1 at a1
               generalize (({ r with bl := rangeL r.bl k (3, s) i } : RM).bl.getD (k + i) (0, 0)).2 = x2 at a2
               have HR2 := hid R2
               have HK2 := hid K2
               clear R2 K2
               go_wp2
               go_roundw
               case rel =>
                 have hB := ((HR2.out.Bb.set_ (k * 2 + i * 2) (.int .i64 3)).set_ (k * 2 + i * 2 + 1) (.int .i64 (s : Int)))
                 have hBs := bcells_set (rangeL r.bl k (3, s) i) r.spb (k + i) 3 s (by simp; omega)
                 rw [show (k + i) * 2 = k * 2 + i * 2 by omega] at hBs
                 have hB2 : Blk ((wr.setCell ⟨b.hb, k * 2 + i * 2, none⟩ (.int .i64 3)).setCell ⟨b.hb, k * 2 + i * 2 + 1, none⟩ (.int .i64 (s : Int))) b.hb 104 (bcells ((rangeL r.bl k (3, s) i).set (k + i) (3, s)) ++ r.spb).toArray := by
                   rw [← hBs]; exact hB
                 have KK : Kp [b.hb] wr _ := (Kp.cell wr ⟨b.hb, k * 2 + i * 2, none⟩ (.int .i64 3)).trans (Kp.cell _ ⟨b.hb, k * 2 + i * 2 + 1, none⟩ (.int .i64 (s : Int))) (U := [b.hb]) (by simp) (by simp)
                 exact ⟨i + 1, by omega, by go_num, HR2.out.setB (bl := rangeL r.bl k (3, s) (i + 1)) hB2 (by simp) KK, HK2.out.trans KK (by simp) (by simp)⟩
               case measure => simp [intOf]; omega
             · obtain rfl : i = j := by omega
               have a1 := R2.stc (k := k) (by simp; omega)
               have f1 := R2.Bb.frozen (k * 2)
               generalize (({ r with bl := rangeL r.bl k (3, s) i } : RM).bl.getD k (0, 0)).1 = x1 at a1
               have hi0 : (0 : Int) < (i : Int) := by omega
               have hi1 : 0 < i := by omega
               have HR2 := hid R2
               have HK2 := hid K2
               clear R2 K2
               go_wp2
               go_ret
               rw [HT.out, HM'.out]
               have hB := HR2.out.Bb.set_ (k * 2) (.int .i64 (st : Int))
               have hBs := bcells_set0 (rangeL r.bl k (3, s) i) r.spb k st (by simp; omega)
               have hg := rangeL_get r.bl k (3, s) i k (by omega)
               rw [if_pos ⟨Nat.le_refl _, by omega⟩] at hg
               rw [hg] at hBs
               have hB2 : Blk (wr.setCell ⟨b.hb, k * 2, none⟩ (.int .i64 (st : Int))) b.hb 104 (bcells (claimL r.bl k i s st) ++ r.spb).toArray := by
                 unfold claimL
                 rw [← hBs]; exact hB
               have KK : Kp [b.hb] wr _ := Kp.cell wr ⟨b.hb, k * 2, none⟩ (.int .i64 (st : Int))
               have R3 := HR2.out.setB (bl := claimL r.bl k i s st) hB2 (by simp [claimL]) KK
               have hbl := HI.out.bl
               have A3 := HI.out.setBl (claimL_length m.bl k i s st) (claim_inv HI.out.inv hk1 hn1 HN2.out HFR.out HST0.out)
               rw [← hbl] at A3
               exact ⟨rfl, ⟨_, R3, by rw [← hbl]; exact A3, hq1, hq2⟩, (HK2.out.trans KK (U := [b.hb]) (by simp) (by simp)).all b (by simp [HB.all])⟩
   · obtain ⟨e0, e1⟩ := bad (by simp only [claimOk, hx, decide_eq_false hn]; rfl)
     rw [e0, e1]
     rw [← hbl] at hn
     by_cases hn1 : n < 1
     · clear e0 e1 bad hx hbl hst A hn
       go_enter Tryz.func117, Tryz.ntmps117
       go_wp2_with (first | (go_at_call 55; refine (h_made R).mono ?_; rintro e w' ⟨rfl, n1, rfl⟩) | (go_at_call 125; refine (h_canBeUsed (R.drewN _) _).mono ?_; rintro e w' ⟨rfl, n2, rfl⟩; rw [HX.out]))
       go_ret
       exact ⟨rfl, h0.drewN _, (Kp.draw w _).mono (by simp)⟩
     · have d1 : decide ((r.bl.length : Int) - (k : Int) < n) = true := decide_eq_true (by omega)
       have d2 : (r.bl.length : Int) - (k : Int) < n := by omega
       clear e0 e1 bad hx hbl hst A hn
       go_enter Tryz.func117, Tryz.ntmps117
       go_wp2_with (first | (go_at_call 55; refine (h_made R).mono ?_; rintro e w' ⟨rfl, n1, rfl⟩) | (go_at_call 125; refine (h_canBeUsed (R.drewN _) _).mono ?_; rintro e w' ⟨rfl, n2, rfl⟩; rw [HX.out]))
       go_ret
       exact ⟨rfl, h0.drewN _, (Kp.draw w _).mono (by simp)⟩
theorem h_Claim (h : SH w b q m) (x s : Int) :
   Calls Tryz.prog 43 #[.pointer (some ⟨b.g, 0, none⟩), .int .i64 x, .int .i64 s] w fun e w' => e = .returned (.int .i64 (m.claimE x 1 s)) ∧ SH w' b q (m.claimM x 1 s 1) ∧ Kp b.all w w' := by
 go_enter Tryz.func43, Tryz.ntmps43
 go_wp2_with (go_at_call 117; refine (h_claim h _ _ _ 1 (.inl rfl)).mono ?_; rintro e w2 ⟨rfl, S2, K2⟩; have HS := hid S2; have HK := hid K2; clear S2 K2)
 go_ret
 exact ⟨rfl, HS.out, HK.out⟩
theorem h_ClaimLarge (h : SH w b q m) (x n s : Int) :
   Calls Tryz.prog 50 #[.pointer (some ⟨b.g, 0, none⟩), .int .i64 x, .int .i64 n, .int .i64 s] w fun e w' => e = .returned (.int .i64 (m.claimE x n s)) ∧ SH w' b q (m.claimM x n s 2) ∧ Kp b.all w w' := by
 go_enter Tryz.func50, Tryz.ntmps50
 go_wp2_with (go_at_call 117; refine (h_claim h _ _ _ 2 (.inr rfl)).mono ?_; rintro e w2 ⟨rfl, S2, K2⟩; have HS := hid S2; have HK := hid K2; clear S2 K2)
 go_ret
 exact ⟨rfl, HS.out, HK.out⟩
end
end Go.Proofs.YthndilllnneijaaGreat
