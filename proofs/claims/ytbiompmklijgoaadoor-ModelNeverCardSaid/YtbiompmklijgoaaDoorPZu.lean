/-
  The contracts of Strong and of the law's keeps. Conditions: those that stand in each theorem.
-/
import Derived.Test.YtbiompmklijgoaaDoorPZl
namespace Go.Proofs.YtbiompmklijgoaaDoor
set_option linter.unusedVariables false
set_option linter.unusedSimpArgs false
open Go.RowKit Go.Deep Go.Maps

/-- Whether a reference keeps by itself. -/
def strB (k i : Nat) : Bool := decide (looseN k ≤ i)
def MT.kpB (t : MT) (bs : List Bool) (x y : Int) (i : Nat) : Bool := decide (t.rf x i = y) && (strB (t.obj x).k i || (decide ((t.obj x).k = 2 ∧ i = 1) && bs.getD (t.rf x 0).toNat false))
/-- Whether an object keeps another one, where those that a list says are kept. -/
def MT.keepB (t : MT) (bs : List Bool) (x y : Int) : Bool := (List.range (t.obj x).r).any (t.kpB bs x y)
theorem keepB_no {t : MT} {bs : List Bool} {x y : Int} (h : ∀ j, j < (t.obj x).r → t.kpB bs x y j = false) : t.keepB bs x y = false := by
  unfold MT.keepB
  rw [List.any_eq_false]
  intro j hj
  rw [h j (List.mem_range.1 hj)]
  simp
theorem keepB_yes {t : MT} {bs : List Bool} {x y : Int} {j : Nat} (hj : j < (t.obj x).r) (h : t.kpB bs x y j = true) : t.keepB bs x y = true := by
  unfold MT.keepB
  rw [List.any_eq_true]
  exact ⟨j, List.mem_range.2 hj, h⟩
theorem up_to {f : Nat → Bool} {i : Nat} (h : ∀ j, j < i → f j = false) (hi : f i = false) : ∀ j, j < i + 1 → f j = false := fun j hj => by
  rcases Nat.lt_or_ge j i with h1 | h1
  · exact h j h1
  · obtain rfl : j = i := by omega
    exact hi
section
variable {w w' W V : World} {g : Nat} {t t' : MT} {L : List Nat}
set_option maxRecDepth 100000 in
set_option maxHeartbeats 1000000 in
theorem m_strong (w : World) (r d k i : Nat) :
    Calls Tryd.prog 66 #[.agg #[.int .i64 (r : Int), .int .i64 (d : Int), .int .i64 (k : Int)], .int .i64 (i : Int)] w fun e w' => e = .returned (.bool (strB k i)) ∧ Kp [] w w' := by
  have K1 := hid (Kp.new w (.cells #[.int .i64 (r : Int), .int .i64 (d : Int), .int .i64 (k : Int)] 33))
  have hbx := Blk.new w 33 #[.int .i64 (r : Int), .int .i64 (d : Int), .int .i64 (k : Int)]
  have c2 := hbx.cell 2
  clear hbx
  by_cases k1 : k = 1
  · subst k1
    rcases i with _ | i
    · have HF : Hid (strB 1 0 = false) := rfl
      go_enter Tryd.func66, Tryd.ntmps66
      go_wp2
      go_ret
      exact ⟨by rw [HF.out]; rfl, K1.out⟩
    · have HF : Hid (strB 1 (i + 1) = true) := by
        show _ = _
        unfold strB looseN
        simp
      have d0 : decide ((0 : Int) < ((i + 1 : Nat) : Int)) = true := decide_eq_true (by omega)
      go_enter Tryd.func66, Tryd.ntmps66
      go_wp2
      go_ret
      exact ⟨by rw [HF.out]; rfl, K1.out⟩
  · have q1 : ((k : Int) != 1) = true := by simp; omega
    by_cases k2 : k = 2
    · subst k2
      rcases i with _ | _ | i
      · have HF : Hid (strB 2 0 = false) := rfl
        go_enter Tryd.func66, Tryd.ntmps66
        go_wp2
        go_ret
        exact ⟨by rw [HF.out]; rfl, K1.out⟩
      · have HF : Hid (strB 2 (0 + 1) = false) := rfl
        go_enter Tryd.func66, Tryd.ntmps66
        go_wp2
        go_ret
        exact ⟨by rw [HF.out]; rfl, K1.out⟩
      · have HF : Hid (strB 2 (i + 1 + 1) = true) := by
          show _ = _
          unfold strB looseN
          simp
        have d0 : decide ((0 : Int) < ((i + 1 + 1 : Nat) : Int)) = true := decide_eq_true (by omega)
        go_enter Tryd.func66, Tryd.ntmps66
        go_wp2
        go_ret
        refine ⟨?_, K1.out⟩
        show Ending.returned (.bool (decide ((1 : Int) < (i : Int) + 1 + 1))) = _
        rw [HF.out, decide_eq_true (by omega)]
    · have q2 : ((k : Int) != 2) = true := by simp; omega
      have HF : Hid (strB k i = true) := by
        show _ = _
        unfold strB looseN
        rw [if_neg k1, if_neg k2]
        simp
      go_enter Tryd.func66, Tryd.ntmps66
      go_wp2
      go_ret
      exact ⟨by rw [HF.out]; rfl, K1.out⟩
set_option maxRecDepth 100000 in
set_option maxHeartbeats 1000000 in
theorem l_keeps (h : Live W g t L) {x : Int} (hx : t.has x = true) (y : Int) {gk N : Nat} {bs : List Bool} (hb : Blk W gk 4 (bcells bs)) (hl : bs.length = N) (hN : t.ob.length + 1 = N) :
    Calls Tryd.prog 33 #[.pointer (some ⟨g, 0, none⟩), .slice (some ⟨gk, 0, none⟩) N N, .int .i64 x, .int .i64 y] W fun e w' => e = .returned (.bool (t.keepB bs x y)) ∧ Kp [] W w' := by
  have ok := h.ok
  obtain ⟨nr, hnr⟩ : ∃ n, n = (t.obj x).r := ⟨_, rfl⟩
  obtain ⟨nd, hnd⟩ : ∃ n, n = (t.obj x).d := ⟨_, rfl⟩
  obtain ⟨nk, hnk⟩ : ∃ n, n = (t.obj x).k := ⟨_, rfl⟩
  have HSH : Hid (t.shV x = .agg #[.int .i64 (nr : Int), .int .i64 (nd : Int), .int .i64 (nk : Int)] ∧ t.chk x = 0) := by
    refine ⟨?_, by unfold MT.chk; rw [hx]; rfl⟩
    unfold MT.shV
    rw [hx, hnr, hnd, hnk]
    rfl
  have HRF : Hid (∀ j, j < nr → 0 ≤ t.rf x j ∧ t.rf x j ≤ (t.ob.length : Int)) := fun j hj => ok.rfs (of_decide_eq_true hx) (by omega)
  have HKPE : Hid (∀ j, t.kpB bs x y j = (decide (t.rf x j = y) && (strB nk j || (decide (nk = 2 ∧ j = 1) && bs.getD (t.rf x 0).toNat false)))) := fun j => by rw [hnk]; rfl
  have hr15 : nr ≤ 15 := by
    obtain ⟨b, _, R, _⟩ := h.mr
    rw [hnr]
    exact (R.shape15 hx).1
  have HNR := hid hnr
  have HV := hid h
  have HX := hid hx
  have HB := hid hb
  have HL := hid hl
  have HN := hid hN
  clear h hx ok hnr hnd hnk hb hl hN
  go_enter Tryd.func33, Tryd.ntmps33
  go_wp2_with (fail)
  refine (l_Shape HV.out x).mono ?_
  rintro e w2 ⟨rfl, k2⟩
  rw [HSH.out.1, HSH.out.2]
  have hez : ∀ V : World, (zeroValue 33).run Tryd.prog V = .ok (.agg #[.int .i64 0, .int .i64 0, .int .i64 0]) V := fun V => by kernel_rfl
  have HK2 := hid (k2.chain (Kp.new w2 (.cells #[.int .i64 (nr : Int), .int .i64 (nd : Int), .int .i64 (nk : Int)] 33)))
  have HBX := hid (Blk.new w2 33 #[.int .i64 (nr : Int), .int .i64 (nd : Int), .int .i64 (nk : Int)])
  clear k2
  go_upto_region 2 with (fail)
  generalize w2.alloc (.cells #[.int .i64 (nr : Int), .int .i64 (nd : Int), .int .i64 (nk : Int)] 33) = w3 at HK2 HBX ⊢
  generalize w2.heap.size = gx at HBX ⊢
  clear hez
  go_wp2
  go_loopw [11] (fun ct wr => ∃ i : Nat, i ≤ nr ∧ ct = .int .i64 (i : Int) ∧ (∀ j, j < i → t.kpB bs x y j = false) ∧ Kp [] W wr ∧ Blk wr gx 33 #[.int .i64 (nr : Int), .int .i64 (nd : Int), .int .i64 (nk : Int)]) (fun ct _ => nr - (intOf ct).toNat)
  case atStart => exact ⟨0, by omega, rfl, fun j hj => by omega, HK2.out, HBX.out⟩
  case round =>
    obtain ⟨i, hi, rfl, hno, hkp, hbl⟩ := hrel
    have HNO := hid hno
    have HKP := hid hkp
    have HBL := hid hbl
    have c0 := hbl.cell 0
    clear hno hkp hbl
    by_cases hlt : i < nr
    · have hli : (i : Int) < (nr : Int) := by omega
      go_wp2_with (fail)
      refine (l_Ref (HV.out.kp0 HKP.out).1 x (i : Int)).mono ?_
      rintro e w5 ⟨rfl, k5⟩
      rw [(MT.refV_at HX.out (by rw [← HNR.out]; exact hlt)).1, (MT.refV_at HX.out (by rw [← HNR.out]; exact hlt)).2]
      have HK5 := hid (HKP.out.chain k5)
      have HB5 := hid (HBL.out.kp k5 (by simp))
      clear k5 c0
      by_cases hq : t.rf x i = y
      · have HQ := hid hq
        have hqb : (t.rf x i != y) = false := by simpa using hq
        clear hq
        go_wp2_with (fail)
        refine (l_Ref (HV.out.kp0 HK5.out).1 x 0).mono ?_
        rintro e w6 ⟨rfl, k6⟩
        have HR0 : t.refV x 0 = t.rf x 0 ∧ t.refE x 0 = 0 := MT.refV_at HX.out (i := 0) (by rw [← HNR.out]; omega)
        rw [HR0.1, HR0.2]
        clear HR0
        have HK6 := hid (HK5.out.chain k6)
        have HB6 := hid (HB5.out.kp k6 (by simp))
        have c0 := HB6.out.cell 0
        have c1 := HB6.out.cell 1
        have c2 := HB6.out.cell 2
        clear k6
        obtain ⟨zn, hzn⟩ : ∃ k : Nat, t.rf x 0 = (k : Int) := ⟨(t.rf x 0).toNat, by have := (HRF.out 0 (by omega)).1; omega⟩
        have hzl : zn < N := by have := (HRF.out 0 (by omega)).2; have := HN.out; omega
        have HKE : Hid (t.kpB bs x y i = (strB nk i || (decide (nk = 2 ∧ i = 1) && bs.getD zn false))) := by
          show _ = _
          rw [HKPE.out i, decide_eq_true HQ.out, hzn]
          simp
        rw [hzn]
        clear hzn
        go_wp2_with (fail)
        refine (m_strong w6 nr nd nk i).mono ?_
        rintro e w7 ⟨rfl, k7⟩
        have HK7 := hid (HK6.out.chain k7)
        have HB7 := hid (HB6.out.kp k7 (by simp))
        have e2 := HB7.out.cell 2
        have ck : w7.cell? ⟨gk, zn, none⟩ = some (.bool (bs.getD zn false)) := ((HB.out.kp HK7.out (by simp)).cell zn).trans (bcells_get (by rw [HL.out]; exact hzl))
        have hzi : (zn : Int) < (N : Int) := by omega
        clear k7 c0 c1 c2
        generalize bs.getD zn false = bz at ck HKE
        rcases hst : strB nk i with _ | _
        · by_cases hk2 : nk = 2
          · have q2 : ((nk : Int) == 2) = true := by rw [hk2]; rfl
            by_cases hi1 : i = 1
            · subst hi1
              have HKE2 : Hid (t.kpB bs x y 1 = bz) := by
                show _ = _
                rw [HKE.out, hst, hk2]
                simp
              clear hst hk2
              cases bz
              · go_wp2
                go_roundw
                case rel => exact ⟨1 + 1, by omega, by go_num, up_to HNO.out HKE2.out, HK7.out, HB7.out⟩
                case measure => simp [intOf]; omega
              · have HF : Hid (t.keepB bs x y = true) := keepB_yes (by rw [← HNR.out]; exact hlt) HKE2.out
                go_wp2
                go_ret
                exact ⟨by rw [HF.out] <;> rfl, HK7.out⟩
            · have q3 : ((i : Int) == 1) = false := by simp; omega
              have HKE2 : Hid (t.kpB bs x y i = false) := by
                show _ = _
                rw [HKE.out, hst, decide_eq_false (fun h => hi1 h.2)]
                rfl
              clear hst hk2 hi1
              go_wp2
              go_roundw
              case rel => exact ⟨i + 1, by omega, by go_num, up_to HNO.out HKE2.out, HK7.out, HB7.out⟩
              case measure => simp [intOf]; omega
          · have q2 : ((nk : Int) == 2) = false := by simp; omega
            have HKE2 : Hid (t.kpB bs x y i = false) := by
              show _ = _
              rw [HKE.out, hst, decide_eq_false (fun h => hk2 h.1)]
              rfl
            clear hst hk2
            go_wp2
            go_roundw
            case rel => exact ⟨i + 1, by omega, by go_num, up_to HNO.out HKE2.out, HK7.out, HB7.out⟩
            case measure => simp [intOf]; omega
        · have HF : Hid (t.keepB bs x y = true) := keepB_yes (by rw [← HNR.out]; exact hlt) (by rw [HKE.out, hst]; rfl)
          clear hst
          go_wp2
          go_ret
          exact ⟨by rw [HF.out] <;> rfl, HK7.out⟩
      · have hqb : (t.rf x i != y) = true := by simpa using hq
        have HKE2 : Hid (t.kpB bs x y i = false) := by
          show _ = _
          rw [HKPE.out i, decide_eq_false hq]
          rfl
        clear hq
        go_wp2_with (fail)
        go_roundw
        case rel => exact ⟨i + 1, by omega, by go_num, up_to HNO.out HKE2.out, HK5.out, HB5.out⟩
        case measure => simp [intOf]; omega
    · obtain rfl : i = nr := by omega
      have HF : Hid (t.keepB bs x y = false) := keepB_no (by rw [← HNR.out]; exact HNO.out)
      clear hlt
      go_wp2
      go_ret
      exact ⟨by rw [HF.out] <;> rfl, HKP.out⟩
end
end Go.Proofs.YtbiompmklijgoaaDoor
