/-
  The contract of package heap's Place. Conditions: those that stand in each theorem.
-/
import Derived.Test.YtkhemendnoeciaaGreatHk
import Derived.Deep.RegionHeld3
namespace Go.Proofs.YtkhemendnoeciaaGreat
set_option linter.unusedVariables false
set_option linter.unusedSimpArgs false
open Go.RowKit Go.Deep Go.Maps

def HM.newOb (m : HM) (r d k : Int) : Ob := ⟨m.born + 1, r.toNat, d.toNat, k.toNat, List.replicate (r.toNat + d.toNat) 0, false⟩
def HM.bear (m : HM) : HM := { m with born := m.born + 1 }
def HM.placeE (m : HM) (a r d k : Int) : Int := if vldB r d k then roomE m a (wdN r.toNat d.toNat) 0 else 2
def HM.placeM (m : HM) (a r d k : Int) : HM := if m.placeE a r d k = 0 then m.bear.add a.toNat (m.newOb r d k) else m
def HM.placeV (m : HM) (a r d k : Int) : Int := if m.placeE a r d k = 0 then ((m.born + 1 : Nat) : Int) else 0
def SrcAt (w : World) (gb : Nat) (gs : List Int) : Prop := ∀ j v, (zcells gs)[j]? = some v → w.cell? ⟨gb, j, none⟩ = some v
section
variable {w w' : World} {b : HB} {r : RM} {m : HM} {q : Nat}
theorem SrcAt.kp {w W : World} {gb : Nat} {gs : List Int} (h : SrcAt w gb gs) (k : Kp [] w W) : SrcAt W gb gs := fun j v hv => cell_kp k (h j v hv)
theorem SrcAt.new (w : World) (gs : List Int) : SrcAt (w.alloc (.cells (zcells gs).toArray 3)) w.heap.size gs := fun j v hv => by
  have := (Blk.new w 3 (zcells gs).toArray).cell j
  rw [this]
  simpa using hv
theorem HM.Inv.bear (I : m.Inv) : m.bear.Inv := ⟨I.len2, I.len64, I.b0, I.free0, I.even, I.ok, fun a o h => by have := I.idb a o h; show o.id ≤ m.born + 1; omega, I.lie, I.apart, I.ids⟩
theorem Abs.bear (A : Abs r m) : Abs { r with born := r.born + 1 } m.bear := ⟨A.inv.bear, A.bl, by show r.born + 1 = m.born + 1; rw [A.born], ⟨A.rep.w_ob, A.rep.w_gap, A.rep.p_ob, A.rep.p_in, A.rep.p_gap, A.rep.n_ob, A.rep.n_gap⟩, A.dp, A.df, A.fs⟩
theorem place_model (I : m.Inv) {t x d k : Nat} (hv : vldB x d k = true) (he : t % 2 = 0) (hs : suitB m.bl t (wdN x d) = true) (hk : tkB m 0 t (wdN x d / 2) = false) :
    m.bear.free t (wdN x d) ∧ (m.bear.add t (m.newOb x d k)).Inv ∧ (m.newOb x d k).Ok := by
  have hb := vldB_bd hv
  have hw := wdN_bd hb.1 hb.2.1
  have hok : (m.newOb x d k).Ok := ⟨by simpa [HM.newOb] using hv, by simp [HM.newOb], by simp [HM.newOb]⟩
  have hf : m.bear.free t (wdN x d) := by
    rintro y h1 h2 ⟨a, o, h3, h4, h5⟩
    have h6 := free_of I he hw.2.2.1 hk h1 h2 h3 h4 h5
    have := I.lo h3
    omega
  have hwd : (m.newOb x d k).wd = wdN x d := by simp [HM.newOb, Ob.wd]
  refine ⟨hf, I.bear.add hok he (by rw [hwd]; exact hs) (by rw [hwd]; exact hf) (fun a o h hid => ?_) (Nat.le_refl _), hok⟩
  have := I.idb a o h
  have h2 : o.id = m.born + 1 := hid
  omega
/-- What Place knows of its world. -/
structure PS (w W : World) (b : HB) (r1 : RM) (x d k : Int) : Prop where
  raw : Raw W b r1
  box : Blk W w.heap.size 33 #[.int .i64 x, .int .i64 d, .int .i64 k]
  kp : Kp [b.g] w W
  lt : ∀ y ∈ b.all, y < w.heap.size
theorem PS.x0 {W : World} {r1 : RM} {x d k : Int} (p : PS w W b r1 x d k) : W.cell? ⟨w.heap.size, 0, none⟩ = some (.int .i64 x) := p.box.cell 0
theorem PS.x1 {W : World} {r1 : RM} {x d k : Int} (p : PS w W b r1 x d k) : W.cell? ⟨w.heap.size, 1, none⟩ = some (.int .i64 d) := p.box.cell 1
theorem PS.x2 {W : World} {r1 : RM} {x d k : Int} (p : PS w W b r1 x d k) : W.cell? ⟨w.heap.size, 2, none⟩ = some (.int .i64 k) := p.box.cell 2
theorem PS.kp0 {W W' : World} {r1 : RM} {x d k : Int} (p : PS w W b r1 x d k) (h : Kp [] W W') : PS w W' b r1 x d k := ⟨p.raw.kp0 h, p.box.kp h (by simp), p.kp.chain h, p.lt⟩
theorem PS.drew {W : World} {r1 : RM} {x d k : Int} (p : PS w W b r1 x d k) : PS w W.drew b r1 x d k := p.kp0 (Kp.draw W 1)
theorem PS.start {W : World} {x d k : Int} (R : Raw w b r) (B : Blk W w.heap.size 33 #[.int .i64 x, .int .i64 d, .int .i64 k]) {n : Nat} {V : World} (K : Kp [] w V) (hV : V = W.drewN n) :
    PS w (V.setCell ⟨b.g, 6, none⟩ (.int .i64 ((r.born + 1 : Nat) : Int))) b { r with born := r.born + 1 } x d k := by
  have hlt := R.lt
  refine ⟨(R.kp0 K).setBorn (r.born + 1), ?_, K.chain0 (Kp.cell V ⟨b.g, 6, none⟩ _), hlt⟩
  refine Blk.kp (w := V) ?_ (Kp.cell V ⟨b.g, 6, none⟩ _) ?_
  · rw [hV]; exact B
  · have := hlt b.g (by simp [HB.all])
    simp; omega
theorem PS.far {W : World} {r1 : RM} {x d k : Int} (p : PS w W b r1 x d k) : ∀ y ∈ b.all, W.heap.size ≠ y := fun y hy => Nat.ne_of_gt (Nat.lt_of_lt_of_le (p.lt y hy) p.kp.size)
theorem PS.over {W V : World} {r1 : RM} {x d k : Int} (p : PS w W b r1 x d k) (h : Kp [b.hw, b.ph, b.mp] W V) :
    V.cell? ⟨w.heap.size, 0, none⟩ = some (.int .i64 x) ∧ V.cell? ⟨w.heap.size, 1, none⟩ = some (.int .i64 d) ∧ V.cell? ⟨w.heap.size, 2, none⟩ = some (.int .i64 k) ∧ Kp b.all w V := by
  have hn : w.heap.size ∉ [b.hw, b.ph, b.mp] := by
    have h1 := p.lt b.hw (by simp [HB.all])
    have h2 := p.lt b.ph (by simp [HB.all])
    have h3 := p.lt b.mp (by simp [HB.all])
    simp; omega
  have B := p.box.kp h hn
  exact ⟨B.cell 0, B.cell 1, B.cell 2, (p.kp.all b (by simp [HB.all])).trans (h.all b (by simp [HB.all])) (fun x hx => .inl hx) (fun x hx => .inl hx)⟩
set_option maxHeartbeats 4000000 in
set_option maxRecDepth 100000 in
theorem h_place (h : SH w b q m) (a x d k : Int) (ha : W64 a) (hq : q ≤ 900000000) :
    Calls Tryz.prog 23 #[.pointer (some ⟨b.g, 0, none⟩), .int .i64 a, .agg #[.int .i64 x, .int .i64 d, .int .i64 k]] w fun e w' => e = .returned (.tuple #[.int .i64 (m.placeV a x d k), .int .i64 (m.placeE a x d k)]) ∧ SH w' b (q + 1) (m.placeM a x d k) ∧ Kp b.all w w' := by
  have HA := hid ha
  have B0 := hid (Blk.new w 33 #[.int .i64 x, .int .i64 d, .int .i64 k])
  have K0 := hid (Kp.new w (.cells #[.int .i64 x, .int .i64 d, .int .i64 k] 33))
  clear ha
  rcases hv : vldB x d k
  · have e1 : m.placeE a x d k = 2 := by simp [HM.placeE, hv]
    have e2 : m.placeV a x d k = 0 := by simp [HM.placeV, e1]
    have e3 : m.placeM a x d k = m := by simp [HM.placeM, e1]
    rw [e1, e2, e3]
    have HV := hid hv
    clear e1 e2 e3 hv
    go_enter Tryz.func23, Tryz.ntmps23
    go_wp2_with (first | (go_at_call 33; refine (h.kp0 K0.out).made.mono ?_; rintro e w' ⟨rfl, n1, rfl⟩) | (go_at_call 95; refine (h_valid x d k _).mono ?_; rintro e w1 ⟨rfl, K1⟩; rw [HV.out]; have HK := hid K1.from_drewN; clear K1))
    go_ret2
    exact ⟨rfl, (h.kp0 (K0.out.chain HK.out)).mono (by omega), (K0.out.chain HK.out).mono (by simp)⟩
  · obtain ⟨x, d, k, rfl, rfl, rfl, hb1, hb2, hb3⟩ := vldB_nat hv
    have hwd := wdN_bd hb1 hb2
    have e1 : m.placeE a x d k = roomE m a (wdN x d) 0 := by simp [HM.placeE, hv]
    have HWI : Hid (wordsI x d k = ((wdN x d : Nat) : Int)) := by show _ = _; simp [wordsI, hv]
    have HRM : Hid (∀ (W : World), SH W b q m → Calls Tryz.prog 96 #[.pointer (some ⟨b.g, 0, none⟩), .int .i64 a, .int .i64 ((wdN x d : Nat) : Int), .int .i64 0] W fun e w' => e = .returned (.int .i64 (roomE m a (wdN x d) 0)) ∧ ∃ n, w' = W.drewN n) := fun W SW =>
      h_room SW a HA.out (wdN x d) 0 (by omega) hwd.2.2.1 (by omega) (by omega)
    have HV := hid hv
    by_cases hz : roomE m a (wdN x d) 0 = 0
    · obtain ⟨t, rfl, ht2, htn, hsu, htk⟩ := roomE_zero hz
      have e2 : m.placeV (t : Int) x d k = ((m.born + 1 : Nat) : Int) := by unfold HM.placeV; rw [e1, if_pos hz]
      have e3 : m.placeM (t : Int) x d k = m.bear.add t (m.newOb x d k) := by unfold HM.placeM; rw [e1, if_pos hz, Int.toNat_natCast]
      rw [e1, e2, e3, hz]
      obtain ⟨hfree, hinv, hok⟩ := place_model (k := k) h.inv hv ht2 hsu htk
      have h0 := h
      obtain ⟨r, R, A, hq1, hq2⟩ := h
      have HZ := hid hz
      have hthi := (suit_bd hsu).2.1
      have hwl := A.wl R
      have HPOST : Hid (∀ W, Raw W b ({ r with born := r.born + 1 }.cover t (wdN x d) [((r.born + 1 : Nat) : Int), ((shN x d k : Nat) : Int)]) → SH W b (q + 1) (m.bear.add t (m.newOb x d k))) := fun W RW => by
        refine ⟨_, RW, ?_, by show r.q + 1 ≤ _; omega, by show r.born + 1 ≤ _; omega⟩
        have hwd' : (m.newOb x d k).wd = wdN x d := by simp [HM.newOb, Ob.wd]
        have hb := A.born
        have := A.bear.cover (o := m.newOb x d k) (R.setBorn (r.born + 1)) hinv hok ht2 (by rw [hwd']; exact hfree) rfl (by rw [hwd']; exact hthi) (gs := [((r.born + 1 : Nat) : Int), ((shN x d k : Nat) : Int)]) (by rw [hwd']; exact hwd.1) (fun j hj => by
          rcases j with _ | _ | j
          · show ((r.born + 1 : Nat) : Int) = ((m.born + 1 : Nat) : Int)
            rw [hb]
          · show ((shN x d k : Nat) : Int) = ((m.newOb x d k).sh : Int)
            simp [Ob.sh, HM.newOb]
          · show (0 : Int) = (m.newOb x d k).fs.getD (j + 2 - 2) 0
            simp [HM.newOb, List.getD_eq_getElem?_getD, List.getElem?_replicate]
            split <;> rfl) ⟨by show _ ≤ ((m.born + 1 : Nat) : Int); omega, by show ((m.born + 1 : Nat) : Int) ≤ _; omega⟩
        rw [hwd'] at this
        exact this
      have hc6 := (R.kp0 K0.out).c6
      have hbn : r.born ≤ 900000000 := by omega
      have HBN : Hid (((r.born : Int) + 1) = ((r.born + 1 : Nat) : Int)) := by show _ = _; omega
      have HBM : Hid (m.born = r.born) := A.born.symm
      have HWD := hid hwd
      have HID : Hid (W64 (([((r.born + 1 : Nat) : Int), ((shN x d k : Nat) : Int)] : List Int).getD 0 0)) := ⟨by show _ ≤ ((r.born + 1 : Nat) : Int); omega, by show ((r.born + 1 : Nat) : Int) ≤ _; omega⟩
      have HT2 := hid ht2
      have HCB : Hid (t + wdN x d ≤ r.ws.length) := by show _ ≤ _; rw [hwl]; exact hthi
      have hq3 : r.q < 1000000000 := by omega
      clear e1 e2 e3 hv hz hfree hinv hok ht2 hsu htk hthi hwl htn hwd A hq2 hq1
      have HCV : Hid (∀ W gb, Raw W b { r with born := r.born + 1 } → SrcAt W gb [((r.born + 1 : Nat) : Int), ((shN x d k : Nat) : Int)] → (∀ y ∈ b.all, gb ≠ y) →
          Calls Tryz.prog 98 #[.pointer (some ⟨b.g, 0, none⟩), .int .i64 (t : Int), .slice (some ⟨gb, 0, none⟩) 2 2, .int .i64 ((wdN x d : Nat) : Int)] W fun e w' => e = .returned (.tuple #[]) ∧ Raw w' b ({ r with born := r.born + 1 }.cover t (wdN x d) [((r.born + 1 : Nat) : Int), ((shN x d k : Nat) : Int)]) ∧ Kp [b.hw, b.ph, b.mp] W w') :=
        fun W gb RW SW FW => h_cover (cap := 2) (gs := [((r.born + 1 : Nat) : Int), ((shN x d k : Nat) : Int)]) RW t (wdN x d) gb HCB.out HT2.out HWD.out.2.2.1 HWD.out.1 (show 1 ≤ 2 from Nat.le_succ 1) HWD.out.1 (show 2 ≤ 2 from Nat.le_refl 2) HID.out SW FW hq3
      go_enter Tryz.func23, Tryz.ntmps23
      go_wp2_with (first
        | (go_at_call 33; refine (h0.kp0 K0.out).made.mono ?_; rintro e w' ⟨rfl, n1, rfl⟩)
        | (go_at_call 95; refine (h_valid x d k _).mono ?_; rintro e w1 ⟨rfl, K1⟩; rw [HV.out]; have HK := hid (K0.out.chain K1.from_drewN); have B1 := hid (B0.out.kp K1.from_drewN (by simp)); clear K1; have q0 := B1.out.cell 0; have q1 := B1.out.cell 1; have q2 := B1.out.cell 2)
        | (go_at_call 97; refine (h_words x d k _).mono ?_; rintro e w2 ⟨rfl, K2⟩; rw [HWI.out]; have HK2 := hid (HK.out.chain K2); have B2 := hid (B1.out.kp K2 (by simp)); clear K2; have p0 := B2.out.cell 0; have p1 := B2.out.cell 1; have p2 := B2.out.cell 2; have hc6b := (R.kp0 HK2.out).c6; have hf6b := (R.kp0 HK2.out).G.frozen 6; have hne : w.heap.size ≠ b.g := fun hc => by have := R.G.lt; omega)
        | (go_at_call 96; refine (HRM.out _ (h0.kp0 HK2.out)).mono ?_; rintro e w' ⟨rfl, n2, rfl⟩; rw [HZ.out]))
      rw [HBN.out]
      have P0 := hid (PS.start R (B2.out) (HK2.out.drewN n2) rfl)
      have hc6r := P0.out.drew.raw.c6
      clear hc6 hc6b hf6b q0 q1 q2 p0 p1 p2 hne
      generalize (w2.drewN n2).setCell ⟨b.g, 6, none⟩ (.int .i64 ((r.born + 1 : Nat) : Int)) = W4 at P0 hc6r ⊢
      have PD := P0.out.drew
      have s0 := PD.x0
      have s1 := PD.x1
      have s2 := PD.x2
      have s3 := PD.raw.c6
      go_region_held3 (fun W => W.cell? ⟨b.g, 6, none⟩ = some (.int .i64 ((r.born + 1 : Nat) : Int)) ∧ W.cell? ⟨w.heap.size, 0, none⟩ = some (.int .i64 (x : Int)) ∧ W.cell? ⟨w.heap.size, 1, none⟩ = some (.int .i64 (d : Int)) ∧ W.cell? ⟨w.heap.size, 2, none⟩ = some (.int .i64 (k : Int))) (go_keep)
        (first
          | (go_at_call 99; refine (h_shapeWord x d k _ hb1 hb2 hb3).mono ?_; rintro e wA ⟨rfl, KA⟩; have PA := PS.kp0 (by assumption) KA; have t0 := PA.x0; have t1 := PA.x1; have t2 := PA.x2; have t3 := PA.raw.c6)
          | (go_at_call 97; refine (h_words x d k _).mono ?_; rintro e wB ⟨rfl, KB⟩; rw [HWI.out]; first | (have PB := PS.kp0 (by assumption) KB; have u0 := PB.x0; have u1 := PB.x1; have u2 := PB.x2; have u3 := PB.raw.c6) | (have PB := PS.kp0 (PS.kp0 (by assumption) (Kp.new _ _)) KB; have SB := (SrcAt.new _ [((r.born + 1 : Nat) : Int), ((shN x d k : Nat) : Int)]).kp KB; have u0 := PB.x0; have u1 := PB.x1; have u2 := PB.x2; have u3 := PB.raw.c6))
          | (go_at_call 98; refine (HCV.out _ _ ?_ ?_ ?_).mono ?_; (first | exact PS.raw (by assumption) | exact PS.raw (PS.kp0 (by assumption) (Kp.new _ _))); (first | exact (show SrcAt _ _ [((r.born + 1 : Nat) : Int), ((shN x d k : Nat) : Int)] by assumption) | exact SrcAt.new _ [((r.born + 1 : Nat) : Int), ((shN x d k : Nat) : Int)]); (first | exact PS.far (by assumption)); rintro e w5 ⟨rfl, R5, K5⟩; first | (obtain ⟨z0, z1, z2, KZ⟩ := PS.over (by assumption) K5; have z3 : w5.cell? ⟨b.g, 6, none⟩ = some (.int .i64 ((r.born + 1 : Nat) : Int)) := R5.c6; have HR5 := hid R5; have HKZ := hid KZ; clear R5 K5 KZ) | (obtain ⟨z0, z1, z2, KZ⟩ := PS.over (PS.kp0 (by assumption) (Kp.new _ _)) K5; have z3 : w5.cell? ⟨b.g, 6, none⟩ = some (.int .i64 ((r.born + 1 : Nat) : Int)) := R5.c6; have HR5 := hid R5; have HKZ := hid KZ; clear R5 K5 KZ)))
      all_goals (
        go_wp2
        go_ret2
        rw [HBM.out]
        exact ⟨rfl, HPOST.out _ HR5.out, HKZ.out⟩)
    · have e2 : m.placeV a x d k = 0 := by unfold HM.placeV; rw [e1, if_neg hz]
      have e3 : m.placeM a x d k = m := by unfold HM.placeM; rw [e1, if_neg hz]
      rw [e1, e2, e3]
      have f1 : (roomE m a (wdN x d) 0 != 0) = true := bne_iff_ne.2 hz
      clear e1 e2 e3 hv hz
      go_enter Tryz.func23, Tryz.ntmps23
      go_wp2_with (first
        | (go_at_call 33; refine (h.kp0 K0.out).made.mono ?_; rintro e w' ⟨rfl, n1, rfl⟩)
        | (go_at_call 95; refine (h_valid x d k _).mono ?_; rintro e w1 ⟨rfl, K1⟩; rw [HV.out]; have HK := hid K1.from_drewN; have B1 := hid (B0.out.kp K1.from_drewN (by simp)); clear K1; have q0 := B1.out.cell 0; have q1 := B1.out.cell 1; have q2 := B1.out.cell 2)
        | (go_at_call 97; refine (h_words x d k _).mono ?_; rintro e w2 ⟨rfl, K2⟩; rw [HWI.out]; have HK2 := hid K2; clear K2)
        | (go_at_call 96; refine (HRM.out _ (h.kp0 ((K0.out.chain HK.out).chain HK2.out))).mono ?_; rintro e w' ⟨rfl, n2, rfl⟩))
      go_ret2
      exact ⟨rfl, ((h.kp0 ((K0.out.chain HK.out).chain HK2.out)).drewN _).mono (by omega), (((K0.out.chain HK.out).chain HK2.out).drewN _).mono (by simp)⟩
end
end Go.Proofs.YtkhemendnoeciaaGreat
