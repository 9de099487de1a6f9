/-
  The contracts of package heap's cover and uncover, over a heap's memory. Conditions: those that stand in each theorem.
-/
import Derived.Test.YtkhemendnoeciaaGreatHf
import Derived.Laws.CopyOwn
import Derived.Lib.SliceRun
namespace Go.Proofs.YtkhemendnoeciaaGreat
set_option linter.unusedVariables false
set_option linter.unusedSimpArgs false
open Go.RowKit Go.Deep Go.Maps

theorem own_store {w : World} {bm q : Nat} {D : DataW Unit} (h : w.ownsMap Tryz.prog 3 (plainElem Tryz.prog 3) bm q D) (hq : q < maxLen) (key val : Int) (hk : W64 key) (hv : W64 val) :
    ∃ F : Nat → World, ∀ n, (Instr.mapUpdate 44 (.map (some bm)) (.int .i64 key) (.int .i64 val)).run Tryz.prog (w.drewN n) = .ok () (F n) ∧ (F n).ownsMap Tryz.prog 3 (plainElem Tryz.prog 3) bm (q + 1) (D.put (.int .i64 key) (.lit (.int .i64 val))) ∧ Kp [bm] w (F n) := by
  have hx : ∀ n, ∃ w', (Instr.mapUpdate 44 (.map (some bm)) (.int .i64 key) (.int .i64 val)).run Tryz.prog (w.drewN n) = .ok () w' ∧ w'.ownsMap Tryz.prog 3 (plainElem Tryz.prog 3) bm (q + 1) (D.put (.int .i64 key) (.lit (.int .i64 val))) ∧ Kp [bm] w w' := fun n => by
    obtain ⟨w', h1, h2, h3⟩ := (show (w.drewN n).ownsMap _ _ _ _ _ _ from h).store lawInt Tryz.underlying44 hq (keyOf_int_mk Tryz.underlying3 (wf64 hk.1 hk.2)) (plainElem_int Tryz.underlying3 (wf64 hv.1 hv.2))
    exact ⟨w', h1, h2, (Kp.of_turned h3).from_drewN⟩
  exact ⟨fun n => Classical.choose (hx n), fun n => Classical.choose_spec (hx n)⟩
theorem own_drop {w : World} {bm q : Nat} {D : DataW Unit} (h : w.ownsMap Tryz.prog 3 (plainElem Tryz.prog 3) bm q D) (key : Int) (hk : W64 key) :
    ∃ F : Nat → TypeId → World, ∀ n ty, (Builtin.delete_ #[44, 3] ty #[.map (some bm), .int .i64 key]).run Tryz.prog (w.drewN n) = .ok (.tuple #[]) (F n ty) ∧ (F n ty).ownsMap Tryz.prog 3 (plainElem Tryz.prog 3) bm q (D.del (.int .i64 key)) ∧ Kp [bm] w (F n ty) := by
  have hx : ∀ n ty, ∃ w', (Builtin.delete_ #[44, 3] ty #[.map (some bm), .int .i64 key]).run Tryz.prog (w.drewN n) = .ok (.tuple #[]) w' ∧ w'.ownsMap Tryz.prog 3 (plainElem Tryz.prog 3) bm q (D.del (.int .i64 key)) ∧ Kp [bm] w w' := fun n ty => by
    obtain ⟨w', h1, h2, h3⟩ := (show (w.drewN n).ownsMap _ _ _ _ _ _ from h).drop lawInt Tryz.underlying44 (keyOf_int_mk Tryz.underlying3 (wf64 hk.1 hk.2)) ty
    exact ⟨w', h1, h2, (Kp.of_turned h3).from_drewN⟩
  exact ⟨fun n ty => Classical.choose (hx n ty), fun n ty => Classical.choose_spec (hx n ty)⟩

/-- Numbers laid over others. -/
def laid (ws : List Int) (k : Nat) (gs : List Int) : List Int := ws.take k ++ (gs ++ ws.drop (k + gs.length))
theorem laid_length {ws gs : List Int} {k : Nat} (h : k + gs.length ≤ ws.length) : (laid ws k gs).length = ws.length := by simp [laid]; omega
theorem laid_get {ws gs : List Int} {k : Nat} (h : k + gs.length ≤ ws.length) (j : Nat) : (laid ws k gs).getD j 0 = if k ≤ j ∧ j < k + gs.length then gs.getD (j - k) 0 else ws.getD j 0 := by
  unfold laid
  have h1 : (ws.take k).length = k := by simp; omega
  by_cases hj : j < k
  · rw [if_neg (by omega)]
    simp only [List.getD_eq_getElem?_getD]
    rw [List.getElem?_append_left (by omega), List.getElem?_take_of_lt hj]
  · by_cases hj2 : j < k + gs.length
    · rw [if_pos (by omega)]
      simp only [List.getD_eq_getElem?_getD]
      rw [List.getElem?_append_right (by omega), h1, List.getElem?_append_left (by omega)]
    · rw [if_neg (by omega)]
      simp only [List.getD_eq_getElem?_getD]
      rw [List.getElem?_append_right (by omega), h1, List.getElem?_append_right (by omega), List.getElem?_drop, show k + gs.length + (j - k - gs.length) = j by omega]
theorem zcells_laid (ws gs : List Int) (sp : List Value) (k : Nat) (h : k + gs.length ≤ ws.length) :
    (((zcells ws ++ sp).toArray.toList.take k) ++ zcells gs ++ ((zcells ws ++ sp).toArray.toList.drop (k + (zcells gs).length))).toArray = (zcells (laid ws k gs) ++ sp).toArray := by
  congr 1
  rw [zcells_length]
  unfold laid
  have hl : (zcells ws).length = ws.length := zcells_length ws
  rw [List.take_append_of_le_length (by omega), List.drop_append_of_le_length (by omega)]
  simp [zcells, List.map_take, List.map_drop]
theorem zcells_one {ws : List Int} : ∀ u ∈ zcells ws, u.oneCell' = true := by
  intro u hu
  obtain ⟨x, _, rfl⟩ := List.mem_map.1 hu
  rfl
theorem Kp.row (w : World) (g : Nat) (cs : Array Value) : Kp [g] w (w.setRow g cs) :=
  ⟨rfl, rfl, rfl, by simp [World.setRow], fun k hk hn => setRow_other w g k cs (by simpa using hn)⟩
theorem Blk.setCells {w : World} {g : Nat} {t : TypeId} {ws : List Int} {sp : List Value} (h : Blk w g t (zcells ws ++ sp).toArray) (o : Nat) (gs : List Int) (hl : o + gs.length ≤ ws.length) :
    Blk (w.setCells g o (zcells gs)) g t (zcells (laid ws o gs) ++ sp).toArray := by
  induction gs generalizing w o ws with
  | nil =>
    have : laid ws o [] = ws := by simp [laid]
    rw [this]
    exact h
  | cons x gs ih =>
    simp only [List.length_cons] at hl
    have h1 := h.set_ o (.int .i64 x)
    rw [zcells_set (by omega)] at h1
    have h2 := ih h1 (o + 1) (by simp; omega)
    have e : laid (ws.set o x) (o + 1) gs = laid ws o (x :: gs) := by
      apply List.ext_getElem?
      intro j
      have l1 : (laid (ws.set o x) (o + 1) gs).length = ws.length := by rw [laid_length (by simp; omega)]; simp
      have l2 : (laid ws o (x :: gs)).length = ws.length := laid_length (by simp; omega)
      by_cases hj : j < ws.length
      · rw [List.getElem?_eq_getElem (by omega), List.getElem?_eq_getElem (by omega)]
        congr 1
        have g1 := laid_get (ws := ws.set o x) (gs := gs) (k := o + 1) (by simp; omega) j
        have g2 := laid_get (ws := ws) (gs := x :: gs) (k := o) (by simp; omega) j
        rw [List.getD_eq_getElem?_getD, List.getElem?_eq_getElem (by omega)] at g1 g2
        simp only [Option.getD_some] at g1 g2
        rw [g1, g2]
        simp only [List.length_cons]
        by_cases h3 : j = o
        · subst h3
          rw [if_neg (by omega), if_pos (by omega), Nat.sub_self, List.getD_eq_getElem?_getD, List.getElem?_set_self (by omega)]
          rfl
        · by_cases h4 : o + 1 ≤ j ∧ j < o + 1 + gs.length
          · rw [if_pos h4, if_pos (by omega), show j - o = (j - (o + 1)) + 1 by omega]
            rfl
          · rw [if_neg h4, if_neg (by omega), List.getD_eq_getElem?_getD, List.getD_eq_getElem?_getD, List.getElem?_set_ne (by omega)]
      · rw [List.getElem?_eq_none (by omega), List.getElem?_eq_none (by omega)]
    rw [e] at h2
    exact h2

section
variable {w w' : World} {b : HB} {r : RM}
theorem fill_ok {L : List Nat} {a n v : Nat} {wd : Nat} (ha : a + n ≤ L.length) (hn : 1 ≤ n) (hv : v < 2 ^ wd) : fillL wd L (a : Int) (n : Int) (v : Int) = fillN L a n v := by
  have h1 : coversB L (a : Int) (n : Int) = true := decide_eq_true ⟨by omega, by omega, by omega, by omega⟩
  simp [fillL, fillOk, h1, fitsB_of hv]
theorem set_ok {L : List Nat} {a v : Nat} {wd : Nat} (ha : a < L.length) (hv : v < 2 ^ wd) : setL wd L (a : Int) (v : Int) = L.set a v := by
  simp [setL, setOk, hasB_of ha, fitsB_of hv]
/-- What a heap's memory is behind cover. -/
def RM.cover (r : RM) (k wd : Nat) (gs : List Int) : RM :=
  { r with ws := laid r.ws k gs, ps := (fillN r.ps (k / 2) (wd / 2) 2).set (k / 2) 1, Dp := r.Dp.put (.int .i64 (gs.getD 0 0)) (.lit (.int .i64 (k : Int))), q := r.q + 1 }
set_option maxHeartbeats 2000000 in
set_option maxRecDepth 100000 in
theorem h_cover (R : Raw w b r) (k wd gb cap : Nat) (gs : List Int) (hk : k + wd ≤ r.ws.length) (he : k % 2 = 0) (he2 : wd % 2 = 0) (h2 : 2 ≤ wd) (hg1 : 1 ≤ gs.length) (hg2 : gs.length ≤ wd) (hcap : gs.length ≤ cap) (hid : W64 (gs.getD 0 0))
    (hsrc : ∀ j v, (zcells gs)[j]? = some v → w.cell? ⟨gb, j, none⟩ = some v) (hgb : ∀ x ∈ b.all, gb ≠ x) (hq : r.q < 1000000000) :
    Calls Tryz.prog 98 #[.pointer (some ⟨b.g, 0, none⟩), .int .i64 (k : Int), .slice (some ⟨gb, 0, none⟩) gs.length cap, .int .i64 (wd : Int)] w fun e w' => e = .returned (.tuple #[]) ∧ Raw w' b (r.cover k wd gs) ∧ Kp [b.hw, b.ph, b.mp] w w' := by
  have hwl : r.ws.length ≤ 4096 := by have := R.bl64; have := R.wl; omega
  have hpl : r.ps.length * 2 = r.ws.length := by have := R.pl; have := R.wl; omega
  obtain ⟨W1, hW1⟩ : ∃ W1, W1 = w.setRow b.hw (zcells (laid r.ws k gs) ++ r.spw).toArray := ⟨_, rfl⟩
  have hcp : ∀ ty, (Builtin.copy_ #[42, 42] ty #[.slice (some ⟨b.hw, k, none⟩) (r.ws.length - k) (r.cw - k), .slice (some ⟨gb, 0, none⟩) gs.length cap]).run Tryz.prog w = .ok (.int .i64 (gs.length : Int)) W1 := fun ty => by
    have := run_copy_row (P := Tryz.prog) w 42 42 ty 3 b.hw k (r.ws.length - k) (r.cw - k) ⟨gb, 0, none⟩ gs.length cap (zcells r.ws ++ r.spw).toArray 3 (zcells gs) Tryz.underlying42 (by kernel_rfl) R.Bw (by rw [zcells_length]; exact (Nat.min_eq_left (by omega)).symm)
      (fun j v hv => by
        have e : ((⟨gb, 0, none⟩ : Addr).add j) = ⟨gb, j, none⟩ := by unfold Addr.add; by_cases hj : j = 0 <;> simp [hj]
        rw [e]; exact hsrc j v hv) (by simp [zcells_length]; omega) zcells_one
    rw [zcells_laid _ _ _ _ (by omega), zcells_length] at this
    rw [hW1]
    exact this
  have hB1 : Blk W1 b.hw 3 (zcells (laid r.ws k gs) ++ r.spw).toArray := by
    rw [hW1]; exact setRow_heap w b.hw _ _ _ _ R.Bw
  have hK1 : Kp [b.hw] w W1 := by rw [hW1]; exact Kp.row _ _ _
  have R1 := R.setW hB1 (laid_length (by omega)) hK1
  have hs1 : W1.cell? ⟨gb, 0, none⟩ = some (.int .i64 (gs.getD 0 0)) := by
    have := hsrc 0 (.int .i64 (gs.getD 0 0)) (by rcases gs with _ | ⟨x, gs⟩; · simp at hg1
                                                 · rfl)
    rw [← this]
    refine World.cell?_of_block (hK1.block gb ?_ (by simpa using hgb b.hw (by simp [HB.all])))
    rcases Nat.lt_or_ge gb w.heap.size with hlt | hge
    · exact hlt
    · unfold World.cell? at this
      simp only [Array.getElem?_eq_none hge] at this
      cases this
  have HFI := Go.Proofs.YtkhemendnoeciaaGreat.hid (fill_ok (wd := 2) (L := r.ps) (a := k / 2) (n := wd / 2) (v := 2) (by omega) (by omega) (by decide))
  have HSE := Go.Proofs.YtkhemendnoeciaaGreat.hid (set_ok (wd := 2) (L := fillN r.ps (k / 2) (wd / 2) 2) (a := k / 2) (v := 1) (by rw [fillN_length]; omega) (by decide))
  have e1 : ((k : Int) / 2) = ((k / 2 : Nat) : Int) := by omega
  have e2 : ((wd : Int) / 2) = ((wd / 2 : Nat) : Int) := by omega
  have HE1 := Go.Proofs.YtkhemendnoeciaaGreat.hid e1
  have HE2 := Go.Proofs.YtkhemendnoeciaaGreat.hid e2
  have HID := Go.Proofs.YtkhemendnoeciaaGreat.hid hid
  have hc1 := R.c1
  have hc2 := R1.c2
  have hc4 := R1.c4
  have hcw := R.cw1
  have hcm := R.cw2
  have hkc : k < r.cw := by omega
  unfold maxLen at hcm
  have HGB := Go.Proofs.YtkhemendnoeciaaGreat.hid hgb
  have HR1 := Go.Proofs.YtkhemendnoeciaaGreat.hid R1
  have HK1 := Go.Proofs.YtkhemendnoeciaaGreat.hid hK1
  have HPL := Go.Proofs.YtkhemendnoeciaaGreat.hid hpl
  have HHID := Go.Proofs.YtkhemendnoeciaaGreat.hid hid
  clear hW1 hB1 hK1 R1 e1 e2 hid hgb hsrc R hpl
  go_enter Tryz.func98, Tryz.ntmps98
  go_wp2_with (fail)
  rw [HE1.out, HE2.out]
  refine (fill_any HR1.out.TP _ _ _).mono ?_
  rintro e w2 ⟨rfl, T2, K2⟩
  have HF2 := HFI.out
  rw [show ((2 : Nat) : Int) = 2 from rfl] at HF2
  rw [HF2] at T2
  have R2 := HR1.out.setP T2 (fillN_length _ _ _ _) K2
  have hc2 := R2.c2
  have hs2 : w2.cell? ⟨gb, 0, none⟩ = some (.int .i64 (gs.getD 0 0)) := by
    rw [← hs1]
    refine World.cell?_of_block (K2.block gb ?_ (by simpa using HGB.out b.ph (by simp [HB.all])))
    rcases Nat.lt_or_ge gb W1.heap.size with hlt | hge
    · exact hlt
    · unfold World.cell? at hs1
      simp only [Array.getElem?_eq_none hge] at hs1
      cases hs1
  have HR2 := Go.Proofs.YtkhemendnoeciaaGreat.hid R2
  have HK2 := Go.Proofs.YtkhemendnoeciaaGreat.hid K2
  clear HF2 T2 R2 K2
  go_wp2_with (fail)
  rw [HE1.out]
  refine (set_any HR2.out.TP _ _).mono ?_
  rintro e w3 ⟨rfl, T3, K3⟩
  have HS3 := HSE.out
  rw [show ((1 : Nat) : Int) = 1 from rfl] at HS3
  rw [HS3] at T3
  have R3 := HR2.out.setP T3 (by simp) K3
  have hc4 := R3.c4
  have hs3 : w3.cell? ⟨gb, 0, none⟩ = some (.int .i64 (gs.getD 0 0)) := by
    rw [← hs2]
    refine World.cell?_of_block (K3.block gb ?_ (by simpa using HGB.out b.ph (by simp [HB.all])))
    rcases Nat.lt_or_ge gb w2.heap.size with hlt | hge
    · exact hlt
    · unfold World.cell? at hs2
      simp only [Array.getElem?_eq_none hge] at hs2
      cases hs2
  obtain ⟨F, hF⟩ := own_store R3.MP (by show r.q < _; unfold maxLen; omega) (gs.getD 0 0) (k : Int) HID.out ⟨by omega, by omega⟩
  have hrun : ∀ n, (Instr.mapUpdate 44 (.map (some b.mp)) (.int .i64 (gs.getD 0 0)) (.int .i64 (k : Int))).run Tryz.prog (w3.drewN n) = .ok () (F n) := fun n => (hF n).1
  have HF := Go.Proofs.YtkhemendnoeciaaGreat.hid hF
  have HR3 := Go.Proofs.YtkhemendnoeciaaGreat.hid R3
  have HK3 := Go.Proofs.YtkhemendnoeciaaGreat.hid K3
  generalize hgd : gs.getD 0 0 = gd at hs1 hs2 hs3 hrun
  have HGD := Go.Proofs.YtkhemendnoeciaaGreat.hid hgd
  clear HS3 T3 R3 K3 hF hs1 hs2 hgd
  have hrun1 : (Instr.mapUpdate 44 (.map (some b.mp)) (.int .i64 gd) (.int .i64 (k : Int))).run Tryz.prog w3.drew = .ok () (F 1) := hrun 1
  have hg0 : 0 < gs.length := hg1
  go_wp2
  go_region
  all_goals (
    go_wp2
    go_end0
    obtain ⟨f1, f2, f3⟩ := HF.out 1
    refine ⟨rfl, HR3.out.setMP f2 (by simp) f3, ?_⟩
    exact (HK1.out.trans (HK2.out.trans (HK3.out.trans f3 (U := [b.ph, b.mp]) (by simp) (by simp)) (U := [b.ph, b.mp]) (by simp) (by simp)) (by simp) (by simp)))
end
end Go.Proofs.YtkhemendnoeciaaGreat
