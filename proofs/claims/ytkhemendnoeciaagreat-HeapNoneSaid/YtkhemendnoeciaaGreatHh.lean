/-
  The contract of package heap's uncover, over a heap's memory. Conditions: those that stand in the theorem.
-/
import Derived.Test.YtkhemendnoeciaaGreatHg
namespace Go.Proofs.YtkhemendnoeciaaGreat
set_option linter.unusedVariables false
set_option linter.unusedSimpArgs false
open Go.RowKit Go.Deep Go.Maps

section
variable {w w' : World} {b : HB} {r : RM}
/-- What a heap's memory is behind uncover. -/
def RM.uncover (r : RM) (k wd : Nat) (i : Int) : RM :=
  { r with ws := laid r.ws k (List.replicate wd 0), ps := fillN r.ps (k / 2) (wd / 2) 0, pn := r.pn.set (k / 2) 0, Dp := r.Dp.del (.int .i64 i) }
theorem zcells_zero (n : Nat) : zcells (List.replicate n 0) = List.replicate n (.int .i64 0) := by simp [zcells]
set_option maxHeartbeats 2000000 in
set_option maxRecDepth 100000 in
theorem h_uncover (R : Raw w b r) (k x d kd : Nat) (i : Int) (hk : k + wdN x d ≤ r.ws.length) (he : k % 2 = 0) (hv : vldB x d kd = true) (hw0 : r.ws.getD k 0 = i) (hw1 : r.ws.getD (k + 1) 0 = ((shN x d kd : Nat) : Int)) (hi : W64 i) :
    Calls Tryz.prog 102 #[.pointer (some ⟨b.g, 0, none⟩), .int .i64 (k : Int)] w fun e w' => e = .returned (.tuple #[]) ∧ Raw w' b (r.uncover k (wdN x d) i) ∧ Kp [b.mp, b.hw, b.ph, b.nh] w w' := by
  have hwl : r.ws.length ≤ 4096 := by have := R.bl64; have := R.wl; omega
  have hpl : r.ps.length * 2 = r.ws.length := by have := R.pl; have := R.wl; omega
  have hnl : r.pn.length * 2 = r.ws.length := by have := R.nl; have := R.wl; omega
  have hb := vldB_bd hv
  have hwd := wdN_bd hb.1 hb.2.1
  have HSZ := hid (h_size R k x d kd (by omega) hv hw1)
  generalize hy : wdN x d = wd at hk hwd HSZ ⊢
  have HR := hid R
  have HFI := hid (fill_ok (wd := 2) (L := r.ps) (a := k / 2) (n := wd / 2) (v := 0) (by omega) (by omega) (by decide))
  have HSE := hid (set_ok (wd := 1) (L := r.pn) (a := k / 2) (v := 0) (by omega) (by decide))
  have HE1 := hid (show ((k : Int) / 2) = ((k / 2 : Nat) : Int) by omega)
  have HE2 := hid (show ((wd : Int) / 2) = ((wd / 2 : Nat) : Int) by omega)
  have HI := hid hi
  have HW0 := hid hw0
  have hcw := R.cw1
  have hcm := R.cw2
  have hkc : k < r.cw := by omega
  unfold maxLen at hcm
  have hkl : (k : Int) + (wd : Int) ≤ (r.ws.length : Int) := by omega
  clear hy hv hw0 hw1 hi R
  go_enter Tryz.func102, Tryz.ntmps102
  go_wp2_with (fail)
  refine HSZ.out.mono ?_
  rintro e w1 ⟨rfl, K1⟩
  have R1 := HR.out.kp0 K1
  have hc1 := R1.c1
  have hc4 := R1.c4
  have hx := R1.word (k := k) (by omega)
  rw [HW0.out] at hx
  obtain ⟨F, hF⟩ := own_drop R1.MP i HI.out
  obtain ⟨G, hG⟩ : ∃ G : Nat → TypeId → World, ∀ n ty, G n ty = (F n ty).setCells b.hw k (zcells (List.replicate wd 0)) := ⟨_, fun _ _ => rfl⟩
  have RF : ∀ n ty, Raw (F n ty) b { r with Dp := r.Dp.del (.int .i64 i) } := fun n ty => R1.setMP (hF n ty).2.1 (Nat.le_refl _) (hF n ty).2.2
  have hrun : ∀ ty, (Builtin.delete_ #[44, 3] ty #[.map (some b.mp), .int .i64 i]).run Tryz.prog w1.drew = .ok (.tuple #[]) (F 1 ty) := fun ty => (hF 1 ty).1
  have hcl : ∀ ty ty2, (Builtin.clear_ #[42] ty2 #[.slice (some ⟨b.hw, k, none⟩) wd (r.cw - k)]).run Tryz.prog (F 1 ty) = .ok (.tuple #[]) (G 1 ty) := fun ty ty2 => by
    rw [hG, zcells_zero]
    refine Lib.run_clear_slice (F 1 ty) 42 3 ty2 (.int .i64 0) Tryz.underlying42 zeroInt rfl rfl b.hw k wd (r.cw - k) (by omega) (fun j hj => ?_) (fun j hj => (RF 1 ty).Bw.frozen _)
    rw [(RF 1 ty).word (k := k + j) (by show _ < r.ws.length; omega)]
    rfl
  have RG : ∀ ty, Raw (G 1 ty) b { r with Dp := r.Dp.del (.int .i64 i), ws := laid r.ws k (List.replicate wd 0) } := fun ty => by
    have hB := (RF 1 ty).Bw.setCells k (List.replicate wd 0) (by simpa using hk)
    rw [← hG] at hB
    refine (RF 1 ty).setW hB (laid_length (by simpa using hk)) ?_
    rw [hG]
    exact Kp.setCells _ _ _ _
  have KG : ∀ ty, Kp [b.mp, b.hw] w1 (G 1 ty) := fun ty => by
    rw [hG]
    exact (hF 1 ty).2.2.trans (Kp.setCells _ _ _ _) (by simp) (by simp)
  have HRG := hid RG
  have HKG := hid KG
  have HK1 := hid K1
  have hf1 : ∀ ty, (F 1 ty).cell? ⟨b.g, 1, none⟩ = some (.slice (some ⟨b.hw, 0, none⟩) r.ws.length r.cw) := fun ty => (RF 1 ty).c1
  have hg2 : ∀ ty, (G 1 ty).cell? ⟨b.g, 2, none⟩ = some (.pointer (some ⟨b.pg, 0, none⟩)) := fun ty => (RG ty).c2
  have hkl0 : (k : Int) < (r.ws.length : Int) := by omega
  clear hF hG RF RG KG R1 K1
  go_wp2
  go_region
  all_goals (
    go_wp2_with (fail)
    rw [HE1.out, HE2.out]
    refine (fill_any (HRG.out _).TP _ _ _).mono ?_
    rintro e w2 ⟨rfl, T2, K2⟩
    have HF2 := HFI.out
    rw [show ((0 : Nat) : Int) = 0 from rfl] at HF2
    rw [HF2] at T2
    have R2 := (HRG.out _).setP T2 (fillN_length _ _ _ _) K2
    have K3 := (HKG.out _).trans K2 (U := [b.mp, b.hw, b.ph]) (by simp) (by simp)
    have hc3 := R2.c3
    have HR2 := hid R2
    have HK3 := hid K3
    clear HF2 T2 R2 K2 K3
    go_wp2_with (fail)
    rw [HE1.out]
    refine (set_any HR2.out.TN _ _).mono ?_
    rintro e w3 ⟨rfl, T3, K4⟩
    have HS3 := HSE.out
    rw [show ((0 : Nat) : Int) = 0 from rfl] at HS3
    rw [HS3] at T3
    have R3 := HR2.out.setN T3 (by simp) K4
    have HR3 := hid R3
    have HK4 := hid K4
    clear HS3 T3 R3 K4
    go_wp2
    go_end0
    exact ⟨rfl, HR3.out, HK1.out.chain0 (HK3.out.trans HK4.out (by simp) (by simp))⟩)
end
end Go.Proofs.YtkhemendnoeciaaGreat
