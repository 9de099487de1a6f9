/-
  The contracts of package heap's cover and uncover, over a heap's memory. Conditions: those that stand in each theorem.
-/
import Derived.Test.YthndilllnneijaaGreatPG4
import Derived.Laws.CopyOwn
import Derived.Lib.SliceRun
set_option linter.unusedSimpArgs false
set_option linter.unusedVariables false
set_option maxRecDepth 100000
set_option maxHeartbeats 2000000
namespace Go.Proofs.YthndilllnneijaaGreat
open Go.RowKit Go.Deep Go.Maps
theorem own_store {w : World} {bm q : Nat} {D : DataW Unit} (h : w.ownsMap Tryz.prog 3 (plainElem Tryz.prog 3) bm q D) (hq : q < maxLen) (key val : Int) (hk : W64 key) (hv : W64 val) :
   ∃ F : Nat → World, ∀ n, (Instr.mapUpdate 94 (.map (some bm)) (.int .i64 key) (.int .i64 val)).run Tryz.prog (w.drewN n) = .ok () (F n) ∧ (F n).ownsMap Tryz.prog 3 (plainElem Tryz.prog 3) bm (q + 1) (D.put (.int .i64 key) (.lit (.int .i64 val))) ∧ Kp [bm] w (F n) := by
 have hx : ∀ n, ∃ w', (Instr.mapUpdate 94 (.map (some bm)) (.int .i64 key) (.int .i64 val)).run Tryz.prog (w.drewN n) = .ok () w' ∧ w'.ownsMap Tryz.prog 3 (plainElem Tryz.prog 3) bm (q + 1) (D.put (.int .i64 key) (.lit (.int .i64 val))) ∧ Kp [bm] w w' := fun n => by
   obtain ⟨w', h1, h2, h3⟩ := (show (w.drewN n).ownsMap _ _ _ _ _ _ from h).store lawInt Tryz.underlying94 hq (keyOf_int_mk Tryz.underlying3 (wf64 hk.1 hk.2)) (plainElem_int Tryz.underlying3 (wf64 hv.1 hv.2))
   exact ⟨w', h1, h2, (Kp.of_turned h3).from_drewN⟩
 exact ⟨fun n => Classical.choose (hx n), fun n => Classical.choose_spec (hx n)⟩
theorem own_drop {w : World} {bm q : Nat} {D : DataW Unit} (h : w.ownsMap Tryz.prog 3 (plainElem Tryz.prog 3) bm q D) (key : Int) (hk : W64 key) :
   ∃ F : Nat → TypeId → World, ∀ n ty, (Builtin.delete_ #[94, 3] ty #[.map (some bm), .int .i64 key]).run Tryz.prog (w.drewN n) = .ok (.tuple #[]) (F n ty) ∧ (F n ty).ownsMap Tryz.prog 3 (plainElem Tryz.prog 3) bm q (D.del (.int .i64 key)) ∧ Kp [bm] w (F n ty) := by
 have hx : ∀ n ty, ∃ w', (Builtin.delete_ #[94, 3] ty #[.map (some bm), .int .i64 key]).run Tryz.prog (w.drewN n) = .ok (.tuple #[]) w' ∧ w'.ownsMap Tryz.prog 3 (plainElem Tryz.prog 3) bm q (D.del (.int .i64 key)) ∧ Kp [bm] w w' := fun n ty => by
   obtain ⟨w', h1, h2, h3⟩ := (show (w.drewN n).ownsMap _ _ _ _ _ _ from h).drop lawInt Tryz.underlying94 (keyOf_int_mk Tryz.underlying3 (wf64 hk.1 hk.2)) ty
   exact ⟨w', h1, h2, (Kp.of_turned h3).from_drewN⟩
 exact ⟨fun n ty => Classical.choose (hx n ty), fun n ty => Classical.choose_spec (hx n ty)⟩
def laid (ws : List Int) (k : Nat) (gs : List Int) : List Int := ws.take k ++ (gs ++ ws.drop (k + gs.length))
theorem laid_length {ws gs : List Int} {k : Nat} (h : k + gs.length ≤ ws.length) : (laid ws k gs).length = ws.length := by simp [laid]; omega
theorem laid_get {ws gs : List Int} {k : Nat} (h : k + gs.length ≤ ws.length) (j : Nat) : (laid ws k gs).getD j 0 = if k ≤ j ∧ j < k + gs.length then gs.getD (j - k) 0 else ws.getD j 0 := by
 unfold laid
 have h1 : (ws.take k).length = k := by simp; omega
 by_cases hj : j < k
 · rw [if_neg (by omega)]
   simp only [List.getD_eq_getElem?_getD]
   rw [List.getElem?_append_left (by omega), List.getElem?_take_of_lt hj]
 · by_cases hj2 : j < k + gs.length
   · rw [if_pos (by omega)]
     simp only [List.getD_eq_getElem?_getD]
     rw [List.getElem?_append_right (by omega), h1, List.getElem?_append_left (by omega)]
   · rw [if_neg (by omega)]
     simp only [List.getD_eq_getElem?_getD]
     rw [List.getElem?_append_right (by omega), h1, List.getElem?_append_right (by omega), List.getElem?_drop, show k + gs.length + (j - k - gs.length) = j by omega]
theorem zcells_laid (ws gs : List Int) (sp : List Value) (k : Nat) (h : k + gs.length ≤ ws.length) :
   (((zcells ws ++ sp).toArray.toList.take k) ++ zcells gs ++ ((zcells ws ++ sp).toArray.toList.drop (k + (zcells gs).length))).toArray = (zcells (laid ws k gs) ++ sp).toArray := by
 congr 1
 rw [zcells_length]
 unfold laid
 have hl : (zcells ws).length = ws.length := zcells_length ws
 rw [List.take_append_of_le_length (by omega), List.drop_append_of_le_length (by omega)]
 simp [zcells, List.map_take, List.map_drop]
theorem zcells_one {ws : List Int} : ∀ u ∈ zcells ws, u.oneCell' = true := by
 intro u hu
 obtain ⟨x, _, rfl⟩ := List.mem_map.1 hu
 rfl
theorem Kp.row (w : World) (g : Nat) (cs : Array Value) : Kp [g] w (w.setRow g cs) :=
 ⟨rfl, rfl, rfl, by simp [World.setRow], fun k hk hn => setRow_other w g k cs (by simpa using hn)⟩
theorem Blk.setCells {w : World} {g : Nat} {t : TypeId} {ws : List Int} {sp : List Value} (h : Blk w g t (zcells ws ++ sp).toArray) (o : Nat) (gs : List Int) (hl : o + gs.length ≤ ws.length) :
   Blk (w.setCells g o (zcells gs)) g t (zcells (laid ws o gs) ++ sp).toArray := by
 induction gs generalizing w o ws with
 | nil =>
   have : laid ws o [] = ws := by simp [laid]
   rw [this]
   exact h
 | cons x gs ih =>
   simp only [List.length_cons] at hl
   have h1 := h.set_ o (.int .i64 x)
   rw [zcells_set (by omega)] at h1
   have h2 := ih h1 (o + 1) (by simp; omega)
   have e : laid (ws.set o x) (o + 1) gs = laid ws o (x :: gs) := by
     apply List.ext_getElem?
     intro j
     have l1 : (laid (ws.set o x) (o + 1) gs).length = ws.length := by rw [laid_length (by simp; omega)]; simp
     have l2 : (laid ws o (x :: gs)).length = ws.length := laid_length (by simp; omega)
     by_cases hj : j < ws.length
     · rw [List.getElem?_eq_getElem (by omega), List.getElem?_eq_getElem (by omega)]
       congr 1
       have g1 := laid_get (ws := ws.set o x) (gs := gs) (k := o + 1) (by simp; omega) j
       have g2 := laid_get (ws := ws) (gs := x :: gs) (k := o) (by simp; omega) j
       rw [List.getD_eq_getElem?_getD, List.getElem?_eq_getElem (by omega)] at g1 g2
       simp only [Option.getD_some] at g1 g2
       rw [g1, g2]
       simp only [List.length_cons]
       by_cases h3 : j = o
       · subst h3
         rw [if_neg (by omega), if_pos (by omega), Nat.sub_self, List.getD_eq_getElem?_getD, List.getElem?_set_self (by omega)]
         rfl
       · by_cases h4 : o + 1 ≤ j ∧ j < o + 1 + gs.length
         · rw [if_pos h4, if_pos (by omega), show j - o = (j - (o + 1)) + 1 by omega]
           rfl
         · rw [if_neg h4, if_neg (by omega), List.getD_eq_getElem?_getD, List.getD_eq_getElem?_getD, List.getElem?_set_ne (by omega)]
     · rw [List.getElem?_eq_none (by omega), List.getElem?_eq_none (by omega)]
   rw [e] at h2
   exact h2
section
variable {w w' : World} {b : HB} {r : RM}
theorem fill_ok {L : List Nat} {a n v : Nat} {wd : Nat} (ha : a + n ≤ L.length) (hn : 1 ≤ n) (hv : v < 2 ^ wd) : fillL wd L (a : Int) (n : Int) (v : Int) = fillN L a n v := by
 have h1 : coversB L (a : Int) (n : Int) = true := decide_eq_true ⟨by omega, by omega, by omega, by omega⟩
 simp [fillL, fillOk, h1, fitsB_of hv]
theorem set_ok {L : List Nat} {a v : Nat} {wd : Nat} (ha : a < L.length) (hv : v < 2 ^ wd) : setL wd L (a : Int) (v : Int) = L.set a v := by
 simp [setL, setOk, hasB_of ha, fitsB_of hv]
def RM.cover (r : RM) (k wd : Nat) (gs : List Int) : RM :=
 { r with ws := laid r.ws k gs, ps := (fillN r.ps (k / 2) (wd / 2) 2).set (k / 2) 1, Dp := r.Dp.put (.int .i64 (gs.getD 0 0)) (.lit (.int .i64 (k : Int))), q := r.q + 1 }
theorem h_cover (R : Raw w b r) (k wd gb cap : Nat) (gs : List Int) (hk : k + wd ≤ r.ws.length) (he : k % 2 = 0) (he2 : wd % 2 = 0) (h2 : 2 ≤ wd) (hg1 : 1 ≤ gs.length) (hg2 : gs.length ≤ wd) (hcap : gs.length ≤ cap) (hid : W64 (gs.getD 0 0))
   (hsrc : ∀ j v, (zcells gs)[j]? = some v → w.cell? ⟨gb, j, none⟩ = some v) (hgb : ∀ x ∈ b.all, gb ≠ x) (hq : r.q < 1000000000) :
   Calls Tryz.prog 119 #[.pointer (some ⟨b.g, 0, none⟩), .int .i64 (k : Int), .slice (some ⟨gb, 0, none⟩) gs.length cap, .int .i64 (wd : Int)] w fun e w' => e = .returned (.tuple #[]) ∧ Raw w' b (r.cover k wd gs) ∧ Kp [b.hw, b.ph, b.mp] w w' := by
 have hwl : r.ws.length ≤ 4096 := by have := R.bl64; have := R.wl; omega
 have hpl : r.ps.length * 2 = r.ws.length := by have := R.pl; have := R.wl; omega
 obtain ⟨W1, hW1⟩ : ∃ W1, W1 = w.setRow b.hw (zcells (laid r.ws k gs) ++ r.spw).toArray := ⟨_, rfl⟩
 have hcp : ∀ ty, (Builtin.copy_ #[59, 59] ty #[.slice (some ⟨b.hw, k, none⟩) (r.ws.length - k) (r.cw - k), .slice (some ⟨gb, 0, none⟩) gs.length cap]).run Tryz.prog w = .ok (.int .i64 (gs.length : Int)) W1 := fun ty => by
   have := run_copy_row (P := Tryz.prog) w 59 59 ty 3 b.hw k (r.ws.length - k) (r.cw - k) ⟨gb, 0, none⟩ gs.length cap (zcells r.ws ++ r.spw).toArray 3 (zcells gs) Tryz.underlying59 (by kernel_rfl) R.Bw (by rw [zcells_length]; exact (Nat.min_eq_left (by omega)).symm)
     (fun j v hv => by
       have e : ((⟨gb, 0, none⟩ : Addr).add j) = ⟨gb, j, none⟩ := by unfold Addr.add; by_cases hj : j = 0 <;> simp [hj]
       rw [e]; exact hsrc j v hv) (by simp [zcells_length]; omega) zcells_one
   rw [zcells_laid _ _ _ _ (by omega), zcells_length] at this
   rw [hW1]
   exact this
 have hB1 : Blk W1 b.hw 3 (zcells (laid r.ws k gs) ++ r.spw).toArray := by
   rw [hW1]; exact setRow_heap w b.hw _ _ _ _ R.Bw
 have hK1 : Kp [b.hw] w W1 := by rw [hW1]; exact Kp.row _ _ _
 have R1 := R.setW hB1 (laid_length (by omega)) hK1
 have hs1 : W1.cell? ⟨gb, 0, none⟩ = some (.int .i64 (gs.getD 0 0)) := by
   have := hsrc 0 (.int .i64 (gs.getD 0 0)) (by rcases gs with _ | ⟨x, gs⟩; · simp at hg1
                                                · rfl)
   rw [← this]
   refine World.cell?_of_block (hK1.block gb ?_ (by simpa using hgb b.hw (by simp [HB.all])))
   rcases Nat.lt_or_ge gb w.heap.size with hlt | hge
   · exact hlt
   · unfold World.cell? at this
     simp only [Array.getElem?_eq_none hge] at this
     cases this
 have HFI := Go.Proofs.YthndilllnneijaaGreat.hid (fill_ok (wd := 2) (L := r.ps) (a := k / 2) (n := wd / 2) (v := 2) (by omega) (by omega) (by decide))
 have HSE := Go.Proofs.YthndilllnneijaaGreat.hid (set_ok (wd := 2) (L := fillN r.ps (k / 2) (wd / 2) 2) (a := k / 2) (v := 1) (by rw [fillN_length]; omega) (by decide))
 have e1 : ((k : Int) / 2) = ((k / 2 : Nat) : Int) := by omega
 have e2 : ((wd : Int) / 2) = ((wd / 2 : Nat) : Int) := by omega
 have HE1 := Go.Proofs.YthndilllnneijaaGreat.hid e1
 have HE2 := Go.Proofs.YthndilllnneijaaGreat.hid e2
 have HID := Go.Proofs.YthndilllnneijaaGreat.hid hid
 have hc1 := R.c1
 have hc2 := R1.c2
 have hc4 := R1.c4
 have hcw := R.cw1
 have hcm := R.cw2
 have hkc : k < r.cw := by omega
 unfold maxLen at hcm
 have HGB := Go.Proofs.YthndilllnneijaaGreat.hid hgb
 have HR1 := Go.Proofs.YthndilllnneijaaGreat.hid R1
 have HK1 := Go.Proofs.YthndilllnneijaaGreat.hid hK1
 have HPL := Go.Proofs.YthndilllnneijaaGreat.hid hpl
 have HHID := Go.Proofs.YthndilllnneijaaGreat.hid hid
 clear hW1 hB1 hK1 R1 e1 e2 hid hgb hsrc R hpl
 go_enter Tryz.func119, Tryz.ntmps119
 go_wp2_with (fail)
 rw [HE1.out, HE2.out]
 refine (fill_any HR1.out.TP _ _ _).mono ?_
 rintro e w2 ⟨rfl, T2, K2⟩
 have HF2 := HFI.out
 rw [show ((2 : Nat) : Int) = 2 from rfl] at HF2
 rw [HF2] at T2
 have R2 := HR1.out.setP T2 (fillN_length _ _ _ _) K2
 have hc2 := R2.c2
 have hs2 : w2.cell? ⟨gb, 0, none⟩ = some (.int .i64 (gs.getD 0 0)) := by
   rw [← hs1]
   refine World.cell?_of_block (K2.block gb ?_ (by simpa using HGB.out b.ph (by simp [HB.all])))
   rcases Nat.lt_or_ge gb W1.heap.size with hlt | hge
   · exact hlt
   · unfold World.cell? at hs1
     simp only [Array.getElem?_eq_none hge] at hs1
     cases hs1
 have HR2 := Go.Proofs.YthndilllnneijaaGreat.hid R2
 have HK2 := Go.Proofs.YthndilllnneijaaGreat.hid K2
 clear HF2 T2 R2 K2
 go_wp2_with (fail)
 rw [HE1.out]
 refine (set_any HR2.out.TP _ _).mono ?_
 rintro e w3 ⟨rfl, T3, K3⟩
 have HS3 := HSE.out
 rw [show ((1 : Nat) : Int) = 1 from rfl] at HS3
 rw [HS3] at T3
 have R3 := HR2.out.setP T3 (by simp) K3
 have hc4 := R3.c4
 have hs3 : w3.cell? ⟨gb, 0, none⟩ = some (.int .i64 (gs.getD 0 0)) := by
   rw [← hs2]
   refine World.cell?_of_block (K3.block gb ?_ (by simpa using HGB.out b.ph (by simp [HB.all])))
   rcases Nat.lt_or_ge gb w2.heap.size with hlt | hge
   · exact hlt
   · unfold World.cell? at hs2
     simp only [Array.getElem?_eq_none hge] at hs2
     cases hs2
 obtain ⟨F, hF⟩ := own_store R3.MP (by show r.q < _; unfold maxLen; omega) (gs.getD 0 0) (k : Int) HID.out ⟨by omega, by omega⟩
 have hrun : ∀ n, (Instr.mapUpdate 94 (.map (some b.mp)) (.int .i64 (gs.getD 0 0)) (.int .i64 (k : Int))).run Tryz.prog (w3.drewN n) = .ok () (F n) := fun n => (hF n).1
 have HF := Go.Proofs.YthndilllnneijaaGreat.hid hF
 have HR3 := Go.Proofs.YthndilllnneijaaGreat.hid R3
 have HK3 := Go.Proofs.YthndilllnneijaaGreat.hid K3
 generalize hgd : gs.getD 0 0 = gd at hs1 hs2 hs3 hrun
 have HGD := Go.Proofs.YthndilllnneijaaGreat.hid hgd
 clear HS3 T3 R3 K3 hF hs1 hs2 hgd
 have hrun1 : (Instr.mapUpdate 94 (.map (some b.mp)) (.int .i64 gd) (.int .i64 (k : Int))).run Tryz.prog w3.drew = .ok () (F 1) := hrun 1
 have hg0 : 0 < gs.length := hg1
 go_wp2
 go_region
 all_goals (
   go_wp2
   go_end0
   obtain ⟨f1, f2, f3⟩ := HF.out 1
   refine ⟨rfl, HR3.out.setMP f2 (by simp) f3, ?_⟩
   exact (HK1.out.trans (HK2.out.trans (HK3.out.trans f3 (U := [b.ph, b.mp]) (by simp) (by simp)) (U := [b.ph, b.mp]) (by simp) (by simp)) (by simp) (by simp)))
end
section
variable {w w' : World} {b : HB} {r : RM}
def RM.uncover (r : RM) (k wd : Nat) (i : Int) : RM :=
 { r with ws := laid r.ws k (List.replicate wd 0), ps := fillN r.ps (k / 2) (wd / 2) 0, pn := r.pn.set (k / 2) 0, Dp := r.Dp.del (.int .i64 i) }
theorem zcells_zero (n : Nat) : zcells (List.replicate n 0) = List.replicate n (.int .i64 0) := by simp [zcells]
theorem h_uncover (R : Raw w b r) (k x d kd : Nat) (i : Int) (hk : k + wdN x d ≤ r.ws.length) (he : k % 2 = 0) (hv : vldB x d kd = true) (hw0 : r.ws.getD k 0 = i) (hw1 : r.ws.getD (k + 1) 0 = ((shN x d kd : Nat) : Int)) (hi : W64 i) :
   Calls Tryz.prog 124 #[.pointer (some ⟨b.g, 0, none⟩), .int .i64 (k : Int)] w fun e w' => e = .returned (.tuple #[]) ∧ Raw w' b (r.uncover k (wdN x d) i) ∧ Kp [b.mp, b.hw, b.ph, b.nh] w w' := by
 have hwl : r.ws.length ≤ 4096 := by have := R.bl64; have := R.wl; omega
 have hpl : r.ps.length * 2 = r.ws.length := by have := R.pl; have := R.wl; omega
 have hnl : r.pn.length * 2 = r.ws.length := by have := R.nl; have := R.wl; omega
 have hb := vldB_bd hv
 have hwd := wdN_bd hb.1 hb.2.1
 have HSZ := hid (h_size R k x d kd (by omega) hv hw1)
 generalize hy : wdN x d = wd at hk hwd HSZ ⊢
 have HR := hid R
 have HFI := hid (fill_ok (wd := 2) (L := r.ps) (a := k / 2) (n := wd / 2) (v := 0) (by omega) (by omega) (by decide))
 have HSE := hid (set_ok (wd := 1) (L := r.pn) (a := k / 2) (v := 0) (by omega) (by decide))
 have HE1 := hid (show ((k : Int) / 2) = ((k / 2 : Nat) : Int) by omega)
 have HE2 := hid (show ((wd : Int) / 2) = ((wd / 2 : Nat) : Int) by omega)
 have HI := hid hi
 have HW0 := hid hw0
 have hcw := R.cw1
 have hcm := R.cw2
 have hkc : k < r.cw := by omega
 unfold maxLen at hcm
 have hkl : (k : Int) + (wd : Int) ≤ (r.ws.length : Int) := by omega
 clear hy hv hw0 hw1 hi R
 go_enter Tryz.func124, Tryz.ntmps124
 go_wp2_with (fail)
 refine HSZ.out.mono ?_
 rintro e w1 ⟨rfl, K1⟩
 have R1 := HR.out.kp0 K1
 have hc1 := R1.c1
 have hc4 := R1.c4
 have hx := R1.word (k := k) (by omega)
 rw [HW0.out] at hx
 obtain ⟨F, hF⟩ := own_drop R1.MP i HI.out
 obtain ⟨G, hG⟩ : ∃ G : Nat → TypeId → World, ∀ n ty, G n ty = (F n ty).setCells b.hw k (zcells (List.replicate wd 0)) := ⟨_, fun _ _ => rfl⟩
 have RF : ∀ n ty, Raw (F n ty) b { r with Dp := r.Dp.del (.int .i64 i) } := fun n ty => R1.setMP (hF n ty).2.1 (Nat.le_refl _) (hF n ty).2.2
 have hrun : ∀ ty, (Builtin.delete_ #[94, 3] ty #[.map (some b.mp), .int .i64 i]).run Tryz.prog w1.drew = .ok (.tuple #[]) (F 1 ty) := fun ty => (hF 1 ty).1
 have hcl : ∀ ty ty2, (Builtin.clear_ #[59] ty2 #[.slice (some ⟨b.hw, k, none⟩) wd (r.cw - k)]).run Tryz.prog (F 1 ty) = .ok (.tuple #[]) (G 1 ty) := fun ty ty2 => by
   rw [hG, zcells_zero]
   refine Lib.run_clear_slice (F 1 ty) 59 3 ty2 (.int .i64 0) Tryz.underlying59 zeroInt rfl rfl b.hw k wd (r.cw - k) (by omega) (fun j hj => ?_) (fun j hj => (RF 1 ty).Bw.frozen _)
   rw [(RF 1 ty).word (k := k + j) (by show _ < r.ws.length; omega)]
   rfl
 have RG : ∀ ty, Raw (G 1 ty) b { r with Dp := r.Dp.del (.int .i64 i), ws := laid r.ws k (List.replicate wd 0) } := fun ty => by
   have hB := (RF 1 ty).Bw.setCells k (List.replicate wd 0) (by simpa using hk)
   rw [← hG] at hB
   refine (RF 1 ty).setW hB (laid_length (by simpa using hk)) ?_
   rw [hG]
   exact Kp.setCells _ _ _ _
 have KG : ∀ ty, Kp [b.mp, b.hw] w1 (G 1 ty) := fun ty => by
   rw [hG]
   exact (hF 1 ty).2.2.trans (Kp.setCells _ _ _ _) (by simp) (by simp)
 have HRG := hid RG
 have HKG := hid KG
 have HK1 := hid K1
 have hf1 : ∀ ty, (F 1 ty).cell? ⟨b.g, 1, none⟩ = some (.slice (some ⟨b.hw, 0, none⟩) r.ws.length r.cw) := fun ty => (RF 1 ty).c1
 have hg2 : ∀ ty, (G 1 ty).cell? ⟨b.g, 2, none⟩ = some (.pointer (some ⟨b.pg, 0, none⟩)) := fun ty => (RG ty).c2
 have hkl0 : (k : Int) < (r.ws.length : Int) := by omega
 clear hF hG RF RG KG R1 K1
 go_wp2
 go_region
 all_goals (
   go_wp2_with (fail)
   rw [HE1.out, HE2.out]
   refine (fill_any (HRG.out _).TP _ _ _).mono ?_
   rintro e w2 ⟨rfl, T2, K2⟩
   have HF2 := HFI.out
   rw [show ((0 : Nat) : Int) = 0 from rfl] at HF2
   rw [HF2] at T2
   have R2 := (HRG.out _).setP T2 (fillN_length _ _ _ _) K2
   have K3 := (HKG.out _).trans K2 (U := [b.mp, b.hw, b.ph]) (by simp) (by simp)
   have hc3 := R2.c3
   have HR2 := hid R2
   have HK3 := hid K3
   clear HF2 T2 R2 K2 K3
   go_wp2_with (fail)
   rw [HE1.out]
   refine (set_any HR2.out.TN _ _).mono ?_
   rintro e w3 ⟨rfl, T3, K4⟩
   have HS3 := HSE.out
   rw [show ((0 : Nat) : Int) = 0 from rfl] at HS3
   rw [HS3] at T3
   have R3 := HR2.out.setN T3 (by simp) K4
   have HR3 := hid R3
   have HK4 := hid K4
   clear HS3 T3 R3 K4
   go_wp2
   go_end0
   exact ⟨rfl, HR3.out, HK1.out.chain0 (HK3.out.trans HK4.out (by simp) (by simp))⟩)
end
theorem ent_fillN {L : List Nat} {a n v : Nat} (h : a + n ≤ L.length) (j : Nat) : ent (fillN L a n v) j = if a ≤ j ∧ j < a + n then v else ent L j := by
 induction n with
 | zero => rw [if_neg (by omega)]; rfl
 | succ n ih =>
   unfold fillN
   rw [ent_set _ _ _ _ (by rw [fillN_length]; omega), ih (by omega)]
   by_cases h1 : j = a + n
   · rw [if_pos h1, if_pos (by omega)]
   · rw [if_neg h1]
     by_cases h2 : a ≤ j ∧ j < a + n
     · rw [if_pos h2, if_pos (by omega)]
     · rw [if_neg h2, if_neg (by omega)]
theorem MapRd.put {D : DataW Unit} {f : Int → Option Int} (h : MapRd D f) (hD : IsMap D) (key v : Int) (hk : W64 key) : MapRd (D.put (.int .i64 key) (.lit (.int .i64 v))) (fun i => if i = key then some v else f i) := by
 intro i h1 h2
 have hkl : WideAt.IsKeyLit (.int .i64 key) := trivial
 by_cases he : i = key
 · subst he
   refine ⟨by rw [has_put_same hD hkl]; simp, fun x hx => ?_⟩
   simp at hx
   subst hx
   exact atKey_put_same hD hkl _ _
 · have hne : (Lit.int .i64 i) ≠ .int .i64 key := by simpa using he
   obtain ⟨a1, a2⟩ := h i h1 h2
   refine ⟨by rw [has_put_other hne, a1]; simp [he], fun x hx => ?_⟩
   simp only [if_neg he] at hx
   rw [atKey_put_other hne]
   exact a2 x hx
theorem MapRd.del {D : DataW Unit} {f : Int → Option Int} (h : MapRd D f) (key : Int) : MapRd (D.del (.int .i64 key)) (fun i => if i = key then none else f i) := by
 intro i h1 h2
 by_cases he : i = key
 · subst he
   exact ⟨by rw [has_del_same]; simp, fun x hx => by simp at hx⟩
 · have hne : (Lit.int .i64 i) ≠ .int .i64 key := by simpa using he
   obtain ⟨a1, a2⟩ := h i h1 h2
   refine ⟨by rw [has_del_other hne, a1]; simp [he], fun x hx => ?_⟩
   simp only [if_neg he] at hx
   rw [atKey_del_other hne]
   exact a2 x hx
section
variable {m : HM} {r : RM} {a : Nat} {o : Ob}
theorem add_ob {x : Nat} {y : Ob} : (m.add a o).ob x = some y ↔ (x = a ∧ y = o) ∨ (x ≠ a ∧ m.ob x = some y) := by
 unfold HM.add
 simp only
 constructor
 · intro h
   split at h
   · cases h; exact .inl ⟨by assumption, rfl⟩
   · exact .inr ⟨by assumption, h⟩
 · rintro (⟨rfl, rfl⟩ | ⟨h1, h2⟩)
   · rw [if_pos rfl]
   · rw [if_neg h1, h2]
theorem del_ob {x : Nat} {y : Ob} : (m.del a).ob x = some y ↔ x ≠ a ∧ m.ob x = some y := by
 unfold HM.del
 simp only
 constructor
 · intro h
   split at h
   · cases h
   · exact ⟨by assumption, h⟩
 · rintro ⟨h1, h2⟩
   rw [if_neg h1, h2]
theorem opt_ext {α : Type} {x y : Option α} (h : ∀ a, x = some a ↔ y = some a) : x = y := by
 rcases x with _ | x
 · rcases y with _ | y
   · rfl
   · exact absurd ((h y).2 rfl) (by simp)
 · exact ((h x).1 rfl).symm
theorem atI_add (I : m.Inv) (J : (m.add a o).Inv) (hn : m.ob a = none) : (m.add a o).atI = fun i => if i = (o.id : Int) then some (a : Int) else m.atI i := by
 funext i
 unfold HM.atI
 have h : (m.add a o).at_ i = if i = (o.id : Int) then some a else m.at_ i := by
   apply opt_ext
   intro x
   rw [at_iff J]
   by_cases hi : i = (o.id : Int)
   · rw [if_pos hi]
     constructor
     · rintro ⟨y, h1, h2⟩
       have := J.ids _ _ _ _ h1 (add_ob.2 (.inl ⟨rfl, rfl⟩)) (by omega)
       rw [this]
     · intro h1
       cases h1
       exact ⟨o, add_ob.2 (.inl ⟨rfl, rfl⟩), hi.symm⟩
   · rw [if_neg hi, at_iff I]
     constructor
     · rintro ⟨y, h1, h2⟩
       rcases add_ob.1 h1 with ⟨rfl, rfl⟩ | ⟨_, h3⟩
       · exact absurd h2.symm hi
       · exact ⟨y, h3, h2⟩
     · rintro ⟨y, h1, h2⟩
       exact ⟨y, add_ob.2 (.inr ⟨(by rintro rfl; rw [hn] at h1; cases h1), h1⟩), h2⟩
 rw [h]
 split <;> rfl
theorem atI_del (I : m.Inv) (h : m.ob a = some o) : (m.del a).atI = fun i => if i = (o.id : Int) then none else m.atI i := by
 funext i
 unfold HM.atI
 have h : (m.del a).at_ i = if i = (o.id : Int) then none else m.at_ i := by
   apply opt_ext
   intro x
   rw [at_iff (I.del a)]
   by_cases hi : i = (o.id : Int)
   · rw [if_pos hi]
     constructor
     · rintro ⟨y, h1, h2⟩
       obtain ⟨h3, h4⟩ := del_ob.1 h1
       exact absurd (I.ids _ _ _ _ h4 h (by omega)) h3
     · intro h1
       cases h1
   · rw [if_neg hi, at_iff I]
     constructor
     · rintro ⟨y, h1, h2⟩
       exact ⟨y, (del_ob.1 h1).2, h2⟩
     · rintro ⟨y, h1, h2⟩
       refine ⟨y, del_ob.2 ⟨?_, h1⟩, h2⟩
       rintro rfl
       rw [h] at h1
       cases h1
       exact hi h2.symm
 rw [h]
 split <;> rfl
theorem atI_put (I : m.Inv) {o' : Ob} (h : m.ob a = some o) (hid : o'.id = o.id) (J : (m.add a o').Inv) : (m.add a o').atI = m.atI := by
 funext i
 unfold HM.atI
 have h : (m.add a o').at_ i = m.at_ i := by
   apply opt_ext
   intro x
   rw [at_iff J, at_iff I]
   constructor
   · rintro ⟨y, h1, h2⟩
     rcases add_ob.1 h1 with ⟨rfl, rfl⟩ | ⟨_, h3⟩
     · exact ⟨o, h, by rw [← hid]; exact h2⟩
     · exact ⟨y, h3, h2⟩
   · rintro ⟨y, h1, h2⟩
     by_cases hx : x = a
     · subst hx
       rw [h] at h1
       cases h1
       exact ⟨o', add_ob.2 (.inl ⟨rfl, rfl⟩), by rw [hid]; exact h2⟩
     · exact ⟨y, add_ob.2 (.inr ⟨hx, h1⟩), h2⟩
 rw [h]
theorem Abs.pl (A : Abs r m) {w : World} {b : HB} (R : Raw w b r) : r.ps.length * 2 = m.n := by
 have := R.pl
 have := A.bl
 unfold HM.n
 rw [← this]
 omega
theorem Abs.nl (A : Abs r m) {w : World} {b : HB} (R : Raw w b r) : r.pn.length * 2 = m.n := by
 have := R.nl
 have := A.bl
 unfold HM.n
 rw [← this]
 omega
theorem Abs.uncover (A : Abs r m) {w : World} {b : HB} (R : Raw w b r) (h : m.ob a = some o) : Abs (r.uncover a o.wd o.id) (m.del a) := by
 have I := A.inv
 have hhi := I.hi h
 have hwl := A.wl R
 have hpl := A.pl R
 have hnl := A.nl R
 have he := I.even _ _ h
 have hw := (I.ok _ _ h).wd_bd
 refine ⟨I.del a, A.bl, A.born, ?_, ?_, A.df, A.fs⟩
 · refine A.rep.del I h (fun k => ?_) (fun j => ?_) (fun j => ?_)
   · show (laid r.ws a (List.replicate o.wd 0)).getD k 0 = _
     rw [laid_get (by simp; omega)]
     simp only [List.length_replicate]
     split
     · rw [List.getD_eq_getElem?_getD, List.getElem?_replicate]
       split <;> rfl
     · rfl
   · show ent (fillN r.ps (a / 2) (o.wd / 2) 0) j = _
     rw [ent_fillN (by omega)]
     by_cases hc : a ≤ 2 * j ∧ 2 * j < a + o.wd
     · rw [if_pos hc, if_pos (by omega)]
     · rw [if_neg hc, if_neg (by omega)]
   · show ent (r.pn.set (a / 2) 0) j = _
     rw [ent_set _ _ _ _ (by omega)]
 · show MapRd (r.Dp.del _) _
   rw [atI_del I h]
   exact A.dp.del _
theorem Abs.cover (A : Abs r m) {w : World} {b : HB} (R : Raw w b r) (J : (m.add a o).Inv) (ho : o.Ok) (he : a % 2 = 0) (hf : m.free a o.wd) (hp : o.pin = false) (hhi : a + o.wd ≤ m.n) {gs : List Int} (hg : gs.length ≤ o.wd) (hgs : ∀ j, j < o.wd → gs.getD j 0 = o.word j) (hid : W64 o.id) :
   Abs (r.cover a o.wd gs) (m.add a o) := by
 have I := A.inv
 have hwl := A.wl R
 have hpl := A.pl R
 have hw := ho.wd_bd
 have hn : m.ob a = none := by
   rcases h : m.ob a with _ | y
   · rfl
   · have := (I.ok _ _ h).wd_bd
     exact absurd ⟨a, y, h, Nat.le_refl _, by omega⟩ (hf a (Nat.le_refl _) (by omega))
 refine ⟨J, A.bl, A.born, ?_, ?_, A.df, A.fs⟩
 · refine A.rep.add I ho he hf hp (fun k => ?_) (fun j => ?_)
   · show (laid r.ws a gs).getD k 0 = _
     rw [laid_get (by omega)]
     by_cases h1 : a ≤ k ∧ k < a + o.wd
     · rw [if_pos h1]
       split
       · exact hgs _ (by omega)
       · have h2 := A.rep.w_gap k (hf k h1.1 h1.2)
         rw [h2, ← hgs (k - a) (by omega), List.getD_eq_getElem?_getD, List.getElem?_eq_none (by omega)]
         rfl
     · rw [if_neg h1, if_neg (by omega)]
   · show ent ((fillN r.ps (a / 2) (o.wd / 2) 2).set (a / 2) 1) j = _
     rw [ent_set _ _ _ _ (by rw [fillN_length]; omega), ent_fillN (by omega)]
     by_cases h1 : j = a / 2
     · rw [if_pos h1, if_pos h1]
     · rw [if_neg h1, if_neg h1]
       by_cases hc : a ≤ 2 * j ∧ 2 * j < a + o.wd
       · rw [if_pos hc, if_pos (by omega)]
       · rw [if_neg hc, if_neg (by omega)]
 · show MapRd (r.Dp.put _ _) _
   rw [atI_add I J hn]
   have e : gs.getD 0 0 = (o.id : Int) := by rw [hgs 0 (by omega)]; rfl
   rw [e]
   exact A.dp.put ((R.MP).isMap) _ _ hid
def Ob.setPin (o : Ob) (p : Bool) : Ob := { o with pin := p }
theorem Ob.Ok.setPin (h : o.Ok) (p : Bool) : (o.setPin p).Ok := ⟨h.vld, h.len, h.pos⟩
theorem Abs.setPin (A : Abs r m) {w : World} {b : HB} (R : Raw w b r) (h : m.ob a = some o) (p : Bool) : Abs { r with pn := r.pn.set (a / 2) (if p then 1 else 0) } (m.add a (o.setPin p)) := by
 have I := A.inv
 have J : (m.add a (o.setPin p)).Inv := I.put h ((I.ok _ _ h).setPin p) rfl rfl
 have hnl := A.nl R
 have hhi := I.hi h
 have hw := (I.ok _ _ h).wd_bd
 refine ⟨J, A.bl, A.born, ?_, ?_, A.df, A.fs⟩
 · refine A.rep.put I h rfl (fun k => ?_) (fun j => ?_)
   · by_cases hc : a ≤ k ∧ k < a + o.wd
     · rw [if_pos hc]
       have := A.rep.w_ob _ _ h (k - a) (by omega)
       rw [show a + (k - a) = k by omega] at this
       exact this
     · rw [if_neg hc]
   · show ent (r.pn.set (a / 2) _) j = _
     rw [ent_set _ _ _ _ (by omega)]
     rfl
 · rw [atI_put (o' := o.setPin p) I h rfl J]
   exact A.dp
end
end Go.Proofs.YthndilllnneijaaGreat
