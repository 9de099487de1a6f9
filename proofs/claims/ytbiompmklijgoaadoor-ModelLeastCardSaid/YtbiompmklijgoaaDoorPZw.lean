/-
  ModelLeast's walk. Conditions: those that stand in each theorem.
-/
import Derived.Test.YtbiompmklijgoaaDoorPZv
import Derived.Test.YtbiompmklijgoaaDoorPZp
namespace Go.Proofs.YtbiompmklijgoaaDoor
set_option linter.unusedVariables false
set_option linter.unusedSimpArgs false
open Go.RowKit Go.Deep Go.Maps

theorem set_same {l : List Bool} {i : Nat} (h : l.getD i false = false) : l.set i false = l := by
  apply List.ext_getElem?
  intro j
  rw [List.getElem?_set]
  by_cases e : i = j
  · subst e
    rw [if_pos rfl]
    by_cases hl : i < l.length
    · rw [List.getD_eq_getElem?_getD, List.getElem?_eq_getElem hl] at h
      have h' : l[i] = false := h
      rw [if_pos hl, List.getElem?_eq_getElem hl, h']
    · rw [if_neg hl, List.getElem?_eq_none (by omega)]
  · rw [if_neg e]
theorem clo_snoc {t : MT} {cnt : List Bool} {x : Int} {n : Nat} (h : Clo t cnt x n) (h1 : cnt.getD n false = true ∨ t.keepB cnt x (n : Int) = false) : Clo t cnt x (n + 1) := fun hx y h2 h3 => by
  rcases Nat.lt_or_ge y n with h4 | h4
  · exact h hx y h2 h4
  · obtain rfl : y = n := by omega
    exact h1
section
variable {w w' W V : World} {t : MT}
set_option maxRecDepth 100000 in
set_option maxHeartbeats 2000000 in
theorem model_least (hlz : LZ w) {mu : Int} {A : Option Addr} {len cap : Nat} {X : Nat → SP} (HX : StepsR w A len X) :
    Calls Tryd.prog 6 #[.int .i64 mu, .slice A len cap] w (TrueP w) := by
  have HLZ0 := hid hlz
  have HST1 := hid HX
  clear hlz HX
  by_cases hbad : ¬ (1 ≤ mu ∧ mu ≤ 4) ∨ 120 < len
  · have HBAD := hid hbad
    clear hbad
    go_enter Tryd.func6, Tryd.ntmps6
    go_wp2_with (fail)
    refine (m_made_no HLZ0.out mu HBAD.out).mono ?_
    rintro e w2 ⟨rfl, k2⟩
    have HK2 := hid k2
    clear k2
    go_wp2_with (fail)
    refine (m_alive (HLZ0.out.kp0 HK2.out)).mono ?_
    rintro e w3 ⟨rfl, k3⟩
    have HK3 := hid (HK2.out.chain k3)
    clear k3
    go_wp2
    go_ret
    exact ⟨rfl, HK3.out⟩
  · obtain ⟨n, rfl⟩ : ∃ n : Nat, mu = (n : Int) := ⟨mu.toNat, by omega⟩
    have hn1 : 1 ≤ n := by omega
    have hn4 : n ≤ 4 := by omega
    have hl : len ≤ 120 := by omega
    clear hbad
    obtain ⟨i0, hi0, hz0, hz1, hz2⟩ := info_parts infoBool
    go_enter Tryd.func6, Tryd.ntmps6
    go_wp2_with (fail)
    refine (m_made_ok HLZ0.out n hn1 hn4 HST1.out hl).mono ?_
    rintro e w2 ⟨g, rfl, v2, k2⟩
    obtain ⟨b, hbg, Rm, _⟩ := v2.mr
    have HRM := hid Rm
    have HK2 := hid k2
    clear v2 k2 Rm
    subst hbg
    generalize madeT n X len = t at HRM
    have HOK := hid HRM.out.ok
    go_wp2_with (fail)
    refine (m_Kept HRM.out).mono ?_
    rintro e w3 ⟨vo, rfl, own3, k3⟩
    obtain ⟨Ao, co, hvo⟩ := own_slicez own3
    obtain ⟨nn, hnn⟩ : ∃ nn, nn = t.ob.length := ⟨_, rfl⟩
    have hnl : nn ≤ 100000 := by rw [hnn]; exact HOK.out.small.1
    have HNN : Hid (t.ob.length = nn) := hnn.symm
    have HKL : Hid (∀ z ∈ t.kept, 1 ≤ z ∧ z ≤ (nn : Int)) := fun z hz => by
      have := ((HOK.out.kept_mem z).1 hz).pos HOK.out
      have := HNN.out
      omega
    have hlol : t.kept.length ≤ 1000000000 := by
      have := trues_len t.kb (t.ob.length + 1)
      unfold MT.kept
      omega
    have HRM3 := hid (HRM.out.kp0 k3)
    have hlv : Live w3 b.g t [] := ⟨⟨b, rfl, HRM3.out, fun x hx => by cases hx⟩, fun x hx => by cases hx⟩
    have hm := l_marks hlv (IsN.of_own own3 hlol) (fun z hz => by have := HKL.out z hz; have := HNN.out; omega)
    rw [← hnn] at hm
    clear hnn hlv
    obtain ⟨lol, hlo⟩ : ∃ k, k = t.kept.length := ⟨_, rfl⟩
    rw [← hlo] at hvo hlol
    rw [hvo] at hm ⊢
    have HM := hid hm
    have HVo := hid hvo
    have HLo := hid hlo
    have HO3 := hid own3
    have HK3 := hid (HK2.out.chain k3)
    have HS3 := hid k3.size
    clear hm hvo hlo own3 k3
    go_wp2_with (fail)
    refine HM.out.mono ?_
    rintro e w4 ⟨gk, rfl, bk, gek, k4⟩
    have HK4 := hid (HK3.out.chain k4)
    have HRM4 := hid (HRM3.out.kp0 k4)
    have HO4 := hid (own_base (own_kp0 HO3.out k4) (Nat.zero_le _))
    have HBk4 := hid bk
    have HGK : Hid (w3.heap.size ≤ gk ∧ gk < w4.heap.size) := ⟨gek, bk.lt⟩
    have HVL : Hid (∀ x, vo.ownBlock = some x → x < w3.heap.size) := fun x hx => own_lt HO3.out x hx
    have hml := marks_len (nn + 1) t.kept
    have hm0 : (marks (nn + 1) t.kept).getD 0 false = false := by
      rcases h : (marks (nn + 1) t.kept).getD 0 false with _ | _
      · rfl
      · have h1 := (marks_iff (fun z hz => by have := HKL.out z hz; omega) (by omega)).1 h
        have := HKL.out _ h1
        omega
    have ck : w4.cell? ⟨gk, 0, none⟩ = some (.bool ((marks (nn + 1) t.kept).getD 0 false)) := (bk.cell 0).trans (bcells_get (by rw [hml]; omega))
    have cf := bk.frozen 0
    have h0n : (0 : Int) < (nn : Int) + 1 := by omega
    have HW0 : Hid (0 < w.heap.size) := cell_lt HLZ0.out.1
    have HB5 : Hid (Blk (w4.setCell ⟨gk, 0, none⟩ (.bool false)) gk 4 (bcells (marks (nn + 1) t.kept))) := by
      have hs := bk.set_ 0 (.bool false)
      rw [bcells_set, set_same hm0] at hs
      exact hs
    have HRM5 : Hid (MR (w4.setCell ⟨gk, 0, none⟩ (.bool false)) b t) := HRM4.out.kp (Kp.cell w4 ⟨gk, 0, none⟩ _) (fun x hx hm => by
      have := HRM3.out.lt x hx
      have := HGK.out.1
      simp at hm
      omega) (by have := HGK.out.1; have := HW0.out; have := HK3.out.size; simp; omega)
    have HO5 := hid (own_kpx HO4.out (Kp.cell w4 ⟨gk, 0, none⟩ (.bool false)) (fun g hg hm => by
      have := HVL.out g hg
      have := HGK.out.1
      simp at hm
      omega))
    have HK5 : Hid (Kp [] w (w4.setCell ⟨gk, 0, none⟩ (.bool false))) := HK4.out.trans (Kp.cell w4 ⟨gk, 0, none⟩ _) (by simp) (fun x hx => .inr (by have := HGK.out.1; have := HK3.out.size; simp at hx; omega))
    have HS5 : Hid (w4.heap.size ≤ (w4.setCell ⟨gk, 0, none⟩ (.bool false)).heap.size) := (Kp.cell w4 ⟨gk, 0, none⟩ (.bool false)).size
    clear bk gek k4 hml hm0 HM
    go_upto_region 7 with (fail)
    clear ck cf
    generalize w4.setCell ⟨gk, 0, none⟩ (.bool false) = w5 at HB5 HRM5 HO5 HK5 HS5 ⊢
    go_wp2_with (fail)
    refine (m_roots HRM5.out).mono ?_
    rintro e w6 ⟨vp, rfl, own6, k6⟩
    obtain ⟨Ap, cp, hvp⟩ := own_slicez own6
    have hrl : t.roots.length ≤ 1000 := by
      have ok := HOK.out
      have h2 := ok.sl
      have h3 := ok.gl
      have h4 := ok.qu
      have h5 := ok.n4
      unfold MT.roots
      simp only [List.length_append]
      omega
    obtain ⟨rl, hrl2⟩ : ∃ k, k = t.roots.length := ⟨_, rfl⟩
    rw [← hrl2] at hvp hrl
    rw [hvp]
    have HVp := hid hvp
    have HLp := hid hrl2
    have hmk : ∀ W : World, (Instr.makeSlice 62 (.int .i64 ((nn : Int) + 1)) (.int .i64 ((nn : Int) + 1))).run Tryd.prog W = .ok (.slice (some ⟨W.heap.size, 0, none⟩) (nn + 1) (nn + 1)) (W.alloc (.cells (madeCells #[.bool false] (nn + 1)) 4)) := fun W => by
      have := run_make_rowN (P := Tryd.prog) 62 4 i0 _ Tryd.underlying62 hi0 hz0 .i64 .i64 (nn + 1) (nn + 1) (Nat.le_refl _) (by rw [hz2]; omega) (by omega) W
      rw [hz1, Nat.mul_one] at this
      exact this
    have hmade : madeCells #[.bool false] (nn + 1) = bcells (List.replicate (nn + 1) false) := by
      apply Array.toList_inj.1
      rw [toList_madeCells_one]
      simp [bcells]
    have kN := Kp.new w6 (.cells (madeCells #[.bool false] (nn + 1)) 4)
    have hb := Blk.new w6 4 (madeCells #[.bool false] (nn + 1))
    rw [hmade] at hb
    have HBC := hid hb
    have HLF : Hid (LF w (w6.alloc (.cells (madeCells #[.bool false] (nn + 1)) 4)) b t vo vp gk w6.heap.size (nn + 1)) := by
      have s6 := k6.size
      have s5 := HS5.out
      have sk := HGK.out
      have s3 := HK3.out.size
      have h0 := HW0.out
      refine ⟨(HRM5.out.kp0 k6).kp0 kN, own_kp0 (own_kp0 HO5.out k6) kN, own_base (own_kp0 own6 kN) (Nat.zero_le _), (HB5.out.kp k6 (by simp)).kp kN (by simp), (HK5.out.chain k6).chain kN, fun x hx => ?_, fun hx => ?_, fun hx => ?_, by omega, by omega, by omega⟩
      · have := HRM3.out.lt x hx; omega
      · have := HVL.out _ hx; omega
      · have := own_lt own6 _ hx; omega
    rw [← hmade] at HBC
    clear own6 k6 hvp hrl2 kN hb
    go_upto_region 9 with (fail)
    rw [hmade] at HBC HLF
    generalize w6.alloc (.cells (bcells (List.replicate (nn + 1) false)) 4) = w7 at HBC HLF ⊢
    generalize w6.heap.size = gc at HBC HLF ⊢
    clear hmk hmade hi0 hz0 hz1 hz2 HB5 HRM5 HO5 HK5 HS5 HRM4 HO4 HBk4 HGK HVL HRM3 HO3 HK4 HK3 HS3 HRM HK2
    have HMT : Hid (∀ zn : Nat, zn < nn + 1 → ((marks (nn + 1) t.kept).getD zn false = true ↔ t.K (zn : Int))) := fun zn h => (marks_iff (fun z hz => by have := HKL.out z hz; omega) h).trans (HOK.out.kept_mem _)
    go_wp2
    go_loopw [10] (fun ct wr => ∃ (i : Nat) (cnt : List Bool), i ≤ rl ∧ ct = .int .i64 (i : Int) ∧ cnt.length = nn + 1 ∧ (∀ z ∈ t.roots.take i, z ≠ 0 → cnt.getD z.toNat false = true) ∧ LF w wr b t vo vp gk gc (nn + 1) ∧ Blk wr gc 4 (bcells cnt)) (fun ct _ => rl - (intOf ct).toNat)
    case atStart => exact ⟨0, List.replicate (nn + 1) false, by omega, rfl, by simp, by simp, HLF.out, HBC.out⟩
    case round =>
      obtain ⟨i, cnt, hi, rfl, hcl, hrt, hlf, hbc⟩ := hrel
      have HCL := hid hcl
      have HRT := hid hrt
      have HF1 := hid hlf
      have HB1 := hid hbc
      clear hcl hrt hlf hbc
      by_cases hlt : i < rl
      · obtain ⟨ga, rfl, ca⟩ := own_at HF1.out.p HVp.out (i := i) (by rw [← HLp.out]; exact hlt)
        have hmem : t.roots.getD i 0 ∈ t.roots := getD_mem (by rw [← HLp.out]; exact hlt)
        have HTK := hid (take_snocI (l := t.roots) (k := i) (by rw [← HLp.out]; exact hlt))
        have HKZ : Hid (t.roots.getD i 0 ≠ 0 → t.K (t.roots.getD i 0)) := fun h => .root hmem h
        have hli : (i : Int) < (rl : Int) := by omega
        clear hmem
        generalize t.roots.getD i 0 = z at ca HTK HKZ
        by_cases hz : z = 0
        · subst hz
          go_wp2
          go_roundw
          case rel => exact ⟨i + 1, cnt, by omega, by go_num, HCL.out, by
            rw [HTK.out]
            intro z hz h0
            rcases List.mem_append.1 hz with h | h
            · exact HRT.out z h h0
            · exact absurd (List.mem_singleton.1 h) h0, HF1.out, HB1.out⟩
          case measure => simp [intOf]; omega
        · have hzb : (z == 0) = false := by simpa using hz
          have hk := HKZ.out hz
          have hpos := hk.pos HOK.out
          obtain ⟨zn, rfl⟩ : ∃ k : Nat, z = (k : Int) := ⟨z.toNat, by omega⟩
          have hzn : zn < nn + 1 := by have := HNN.out; omega
          have hzi : (zn : Int) < (nn : Int) + 1 := by omega
          have c1 : wr.cell? ⟨gk, zn, none⟩ = some (.bool true) := by
            rw [← (HMT.out zn hzn).2 hk]
            exact (HF1.out.k.cell zn).trans (bcells_get (by rw [marks_len]; exact hzn))
          have c2 : ∃ u, wr.cell? ⟨gc, zn, none⟩ = some u := ⟨_, (HB1.out.cell zn).trans (bcells_get (by rw [HCL.out]; exact hzn))⟩
          obtain ⟨u, c2⟩ := c2
          have cf := HB1.out.frozen zn
          clear hk hpos hz
          go_wp2
          go_roundw
          case rel =>
            have hs := HB1.out.set_ zn (.bool true)
            rw [bcells_set] at hs
            refine ⟨i + 1, cnt.set zn true, by omega, by go_num, by rw [List.length_set]; exact HCL.out, ?_, HF1.out.chg (Kp.cell wr ⟨gc, zn, none⟩ _), hs⟩
            rw [HTK.out]
            intro z hz h0
            rcases List.mem_append.1 hz with h | h
            · exact set_getD (HRT.out z h h0)
            · rw [List.mem_singleton.1 h, Int.toNat_natCast]
              exact set_getD_self (by rw [HCL.out]; exact hzn)
          case measure => simp [intOf]; omega
      · obtain rfl : i = rl := by omega
        have HRT1 : Hid (∀ z ∈ t.roots, z ≠ 0 → cnt.getD z.toNat false = true) := by
          have h := HRT.out
          rw [HLp.out, List.take_length] at h
          exact h
        clear hlt HRT HLF HBC
        go_wp2_with (fail)
        go_loopw [11] (fun ct wr => ∃ i : Nat, i ≤ lol ∧ ct = .int .i64 (i : Int) ∧ LF w wr b t vo vp gk gc (nn + 1) ∧ Blk wr gc 4 (bcells cnt)) (fun ct _ => lol - (intOf ct).toNat)
        case atStart => exact ⟨0, by omega, rfl, HF1.out, HB1.out⟩
        case round =>
          obtain ⟨i, hi, rfl, hlf, hbc⟩ := hrel
          have HF2 := hid hlf
          have HB2 := hid hbc
          clear hlf hbc
          by_cases hlt : i < lol
          · have hli : (i : Int) < (lol : Int) := by omega
            obtain ⟨zn, hzn⟩ : ∃ k : Nat, t.kept.getD i 0 = (k : Int) := ⟨(t.kept.getD i 0).toNat, by have := HKL.out _ (getD_mem (a := t.kept) (j := i) (by rw [← HLo.out]; exact hlt)); omega⟩
            have HKZ : Hid (t.K (zn : Int)) := by
              show t.K (zn : Int)
              rw [← hzn]
              exact (HOK.out.kept_mem _).1 (getD_mem (by rw [← HLo.out]; exact hlt))
            have HZE := hid hzn
            have hzl : zn < nn + 1 := by have := HKZ.out.pos HOK.out; have := HNN.out; omega
            have hzi : (zn : Int) < (nn : Int) + 1 := by omega
            obtain ⟨ga, rfl, ca⟩ := own_at HF2.out.o HVo.out (i := i) (by rw [← HLo.out]; exact hlt)
            rw [hzn] at ca
            clear hzn
            by_cases hi0 : i = 0
            · have d0 : decide ((0 : Int) < (i : Int)) = false := decide_eq_false (by omega)
              have d1 : decide (0 < i) = false := decide_eq_false (by omega)
              have d2 : (i : Int) ≤ 0 := by omega
              clear hi0
              go_wp2_with (fail)
              go_quiet (fail)
              have HF3 := hid (HF2.out.kp0 (Kp.draw wr nq))
              have HB3 := hid (HB2.out.kp (Kp.draw wr nq) (by simp))
              clear ca
              generalize wr.drewN nq = w8 at HF3 HB3 ⊢
              go_wp2_with (fail)
              go_loopw [12] (fun ct wr => ∃ m : Nat, 1 ≤ m ∧ m ≤ nn + 1 ∧ ct = .int .i64 (m : Int) ∧ LF w wr b t vo vp gk gc (nn + 1) ∧ Blk wr gc 4 (bcells cnt)) (fun ct _ => nn + 1 - (intOf ct).toNat)
              case atStart => exact ⟨1, by omega, by omega, rfl, HF3.out, HB3.out⟩
              case round =>
                obtain ⟨m, hm1, hm2, rfl, hlf, hbc⟩ := hrel
                have HF4 := hid hlf
                have HB4 := hid hbc
                clear hlf hbc
                by_cases hlt : m < nn + 1
                · have hmi : (m : Int) < (nn : Int) + 1 := by omega
                  have c1 : wr.cell? ⟨gk, m, none⟩ = some (.bool ((marks (nn + 1) t.kept).getD m false)) := (HF4.out.k.cell m).trans (bcells_get (by rw [marks_len]; exact hlt))
                  obtain ⟨ga2, hga2, ca⟩ := own_at HF4.out.o HVo.out (i := i) (by rw [← HLo.out]; omega)
                  obtain rfl : ga = ga2 := by injection hga2 with e; injection e
                  rw [HZE.out] at ca
                  clear hga2
                  rcases hbv : (marks (nn + 1) t.kept).getD m false with _ | _
                  · rw [hbv] at c1
                    have HKF : Hid (t.keepB (marks (nn + 1) t.kept) (zn : Int) (m : Int) = false) := by
                      rcases h : t.keepB (marks (nn + 1) t.kept) (zn : Int) (m : Int) with _ | _
                      · exact rfl
                      · have := HOK.out.keep HKZ.out (fun i hi hb => (HMT.out i (by have := HNN.out; omega)).1 hb) (by omega) h
                        rw [(HMT.out m hlt).2 this] at hbv
                        cases hbv
                    clear hbv
                    go_wp2_with (fail)
                    refine (l_keeps HF4.out.live (HKZ.out.has HOK.out) (m : Int) HF4.out.k (marks_len _ _) (by rw [HNN.out])).mono ?_
                    rintro e wk ⟨rfl, kk⟩
                    rw [HKF.out]
                    have HF5 := hid (HF4.out.kp0 kk)
                    have HB5 := hid (HB4.out.kp kk (by simp))
                    clear kk c1 ca
                    go_wp2_with (fail)
                    go_roundw
                    case rel => exact ⟨m + 1, by omega, by omega, by go_num, HF5.out, HB5.out⟩
                    case measure => simp [intOf]; omega
                  · rw [hbv] at c1
                    clear hbv
                    go_wp2_with (fail)
                    go_roundw
                    case rel => exact ⟨m + 1, by omega, by omega, by go_num, HF4.out, HB4.out⟩
                    case measure => simp [intOf]; omega
                · obtain rfl : m = nn + 1 := by omega
                  clear hlt
                  go_wp2_with (fail)
                  go_roundw
                  case rel => exact ⟨i + 1, by omega, by go_num, HF4.out, HB4.out⟩
                  case measure => simp [intOf]; omega
            · obtain ⟨j, hij⟩ : ∃ j, i = j + 1 := ⟨i - 1, by omega⟩
              have hsub : (i : Int) - 1 = (j : Int) := by omega
              have hpos : (0 : Int) < (i : Int) := by omega
              have d0 : decide ((0 : Int) < (i : Int)) = true := decide_eq_true (by omega)
              have d1 : decide (0 < i) = true := decide_eq_true (by omega)
              have hjl : (j : Int) < (lol : Int) := by omega
              obtain ⟨ga2, hga2, cb⟩ := own_at HF2.out.o HVo.out (i := j) (by rw [← HLo.out]; omega)
              obtain rfl : ga = ga2 := by injection hga2 with e; injection e
              have hup : t.kept.getD j 0 < (zn : Int) := by
                rw [← HZE.out, hij]
                exact trues_up _ _ _ (by have := HLo.out; unfold MT.kept at this; omega)
              clear hga2 hi0 hij
              have hwj : wrap64 ((i : Int) - 1) = (j : Int) := by
                rw [hsub]
                exact IntWalk.wrap64_in _ ⟨by omega, by omega⟩
              generalize t.kept.getD j 0 = zp at cb hup
              have hdec : decide ((zn : Int) ≤ zp) = false := decide_eq_false (by omega)
              go_wp2_with (fail)
              go_quiet (fail)
              have HF3 := hid (HF2.out.kp0 (Kp.draw wr nq))
              have HB3 := hid (HB2.out.kp (Kp.draw wr nq) (by simp))
              clear ca cb hsub
              generalize wr.drewN nq = w8 at HF3 HB3 ⊢
              go_wp2_with (fail)
              go_loopw [12] (fun ct wr => ∃ m : Nat, 1 ≤ m ∧ m ≤ nn + 1 ∧ ct = .int .i64 (m : Int) ∧ LF w wr b t vo vp gk gc (nn + 1) ∧ Blk wr gc 4 (bcells cnt)) (fun ct _ => nn + 1 - (intOf ct).toNat)
              case atStart => exact ⟨1, by omega, by omega, rfl, HF3.out, HB3.out⟩
              case round =>
                obtain ⟨m, hm1, hm2, rfl, hlf, hbc⟩ := hrel
                have HF4 := hid hlf
                have HB4 := hid hbc
                clear hlf hbc
                by_cases hlt : m < nn + 1
                · have hmi : (m : Int) < (nn : Int) + 1 := by omega
                  have c1 : wr.cell? ⟨gk, m, none⟩ = some (.bool ((marks (nn + 1) t.kept).getD m false)) := (HF4.out.k.cell m).trans (bcells_get (by rw [marks_len]; exact hlt))
                  obtain ⟨ga2, hga2, ca⟩ := own_at HF4.out.o HVo.out (i := i) (by rw [← HLo.out]; omega)
                  obtain rfl : ga = ga2 := by injection hga2 with e; injection e
                  rw [HZE.out] at ca
                  clear hga2
                  rcases hbv : (marks (nn + 1) t.kept).getD m false with _ | _
                  · rw [hbv] at c1
                    have HKF : Hid (t.keepB (marks (nn + 1) t.kept) (zn : Int) (m : Int) = false) := by
                      rcases h : t.keepB (marks (nn + 1) t.kept) (zn : Int) (m : Int) with _ | _
                      · exact rfl
                      · have := HOK.out.keep HKZ.out (fun i hi hb => (HMT.out i (by have := HNN.out; omega)).1 hb) (by omega) h
                        rw [(HMT.out m hlt).2 this] at hbv
                        cases hbv
                    clear hbv
                    go_wp2_with (fail)
                    refine (l_keeps HF4.out.live (HKZ.out.has HOK.out) (m : Int) HF4.out.k (marks_len _ _) (by rw [HNN.out])).mono ?_
                    rintro e wk ⟨rfl, kk⟩
                    rw [HKF.out]
                    have HF5 := hid (HF4.out.kp0 kk)
                    have HB5 := hid (HB4.out.kp kk (by simp))
                    clear kk c1 ca
                    go_wp2_with (fail)
                    go_roundw
                    case rel => exact ⟨m + 1, by omega, by omega, by go_num, HF5.out, HB5.out⟩
                    case measure => simp [intOf]; omega
                  · rw [hbv] at c1
                    clear hbv
                    go_wp2_with (fail)
                    go_roundw
                    case rel => exact ⟨m + 1, by omega, by omega, by go_num, HF4.out, HB4.out⟩
                    case measure => simp [intOf]; omega
                · obtain rfl : m = nn + 1 := by omega
                  clear hlt
                  go_wp2_with (fail)
                  go_roundw
                  case rel => exact ⟨i + 1, by omega, by go_num, HF4.out, HB4.out⟩
                  case measure => simp [intOf]; omega
          · obtain rfl : lol = i := by omega
            clear hlt HF1 HB1
            go_wp2_with (fail)
            go_loopw [13] (fun cm wr => ∃ (mb : Bool) (cn : List Bool), cm = .bool mb ∧ cn.length = nn + 1 ∧ (∀ z ∈ t.roots, z ≠ 0 → cn.getD z.toNat false = true) ∧ (mb = false → ∀ x ∈ t.kept, Clo t cn x (nn + 1)) ∧ LF w wr b t vo vp gk gc (nn + 1) ∧ Blk wr gc 4 (bcells cn)) (fun cm wr => 2 * fz gc (nn + 1) wr + boolOf cm)
            case atStart => exact ⟨true, cnt, rfl, HCL.out, HRT1.out, fun h => by (cases h), HF2.out, HB2.out⟩
            case round =>
              obtain ⟨mb, cn, rfl, hcl, hrt, hclo, hlf, hbc⟩ := hrel
              have HCL5 := hid hcl
              have HRT5 := hid hrt
              have HCO5 := hid hclo
              have HF5 := hid hlf
              have HB5 := hid hbc
              clear hcl hrt hclo hlf hbc
              cases mb
              · have HALL : Hid (∀ z ∈ t.kept, ∃ zn : Nat, z = (zn : Int) ∧ zn < nn + 1 ∧ cn.getD zn false = true) := fun z hz => by
                  have hk := (HOK.out.kept_mem z).1 hz
                  have h1 := HKL.out z hz
                  obtain ⟨zn, rfl⟩ : ∃ k : Nat, z = (k : Int) := ⟨z.toNat, by omega⟩
                  have := HOK.out.least HRT5.out (fun x hx => by rw [HNN.out]; exact HCO5.out rfl x ((HOK.out.kept_mem x).2 hx)) hk
                  rw [Int.toNat_natCast] at this
                  exact ⟨zn, rfl, by omega, this⟩
                go_wp2_with (fail)
                go_loop [16] (fun ct => ∃ i : Nat, i ≤ lol ∧ ct = .int .i64 (i : Int)) (fun ct => lol - (intOf ct).toNat)
                case atStart => exact ⟨0, by omega, rfl⟩
                case round =>
                  obtain ⟨i, hi, rfl⟩ := hrel
                  by_cases hlt : i < lol
                  · have hli : (i : Int) < (lol : Int) := by omega
                    obtain ⟨zn, hze, hzn, hzt⟩ := HALL.out _ (getD_mem (a := t.kept) (j := i) (by rw [← HLo.out]; exact hlt))
                    obtain ⟨ga, rfl, ca⟩ := own_at HF5.out.o HVo.out (i := i) (by rw [← HLo.out]; exact hlt)
                    rw [hze] at ca
                    have hzi : (zn : Int) < (nn : Int) + 1 := by omega
                    have c1 : wr.cell? ⟨gc, zn, none⟩ = some (.bool true) := by
                      rw [← hzt]
                      exact (HB5.out.cell zn).trans (bcells_get (by rw [HCL5.out]; exact hzn))
                    clear hze hzt
                    go_wp2
                    go_round
                    case rel => exact ⟨i + 1, by omega, by go_num⟩
                    case measure => simp [intOf]; omega
                  · obtain rfl : lol = i := by omega
                    clear hlt
                    go_wp2_with (fail)
                    refine (m_alive (HLZ0.out.kp0 HF5.out.d)).mono ?_
                    rintro e wz ⟨rfl, kz⟩
                    have HKZ := hid (HF5.out.d.chain kz)
                    clear kz
                    go_wp2
                    go_ret
                    exact ⟨rfl, HKZ.out⟩
              · go_wp2_with (fail)
                go_loopw [13, 14] (fun cm ci wr => ∃ (mb : Bool) (i : Nat) (cq : List Bool), cm = .bool mb ∧ i ≤ lol ∧ ci = .int .i64 (i : Int) ∧ cq.length = nn + 1 ∧ (∀ z ∈ t.roots, z ≠ 0 → cq.getD z.toNat false = true) ∧ (mb = true → cq.count false < cn.count false) ∧ (mb = false → cq = cn ∧ ∀ x ∈ t.kept.take i, Clo t cn x (nn + 1)) ∧ LF w wr b t vo vp gk gc (nn + 1) ∧ Blk wr gc 4 (bcells cq)) (fun _ ci _ => lol - (intOf ci).toNat)
                case atStart => exact ⟨false, 0, cn, rfl, by omega, rfl, HCL5.out, HRT5.out, fun h => by (cases h), fun _ => ⟨rfl, by simp⟩, HF5.out, HB5.out⟩
                case round =>
                  obtain ⟨mb, i, cq, rfl, hi, rfl, hcl, hrt, hmt, hmf, hlf, hbc⟩ := hrel
                  have HCL6 := hid hcl
                  have HRT6 := hid hrt
                  have HMT6 := hid hmt
                  have HMF6 := hid hmf
                  have HF6 := hid hlf
                  have HB6 := hid hbc
                  clear hcl hrt hmt hmf hlf hbc
                  by_cases hlt : i < lol
                  · have hli : (i : Int) < (lol : Int) := by omega
                    obtain ⟨zn, hzn⟩ : ∃ k : Nat, t.kept.getD i 0 = (k : Int) := ⟨(t.kept.getD i 0).toNat, by have := HKL.out _ (getD_mem (a := t.kept) (j := i) (by rw [← HLo.out]; exact hlt)); omega⟩
                    have HKZ : Hid (t.K (zn : Int)) := by
                      show t.K (zn : Int)
                      rw [← hzn]
                      exact (HOK.out.kept_mem _).1 (getD_mem (by rw [← HLo.out]; exact hlt))
                    have HZE := hid hzn
                    have HTK := hid (take_snocI (l := t.kept) (k := i) (by rw [← HLo.out]; exact hlt))
                    have hzl : zn < nn + 1 := by have := HKZ.out.pos HOK.out; have := HNN.out; omega
                    have hzi : (zn : Int) < (nn : Int) + 1 := by omega
                    obtain ⟨ga, rfl, ca⟩ := own_at HF6.out.o HVo.out (i := i) (by rw [← HLo.out]; exact hlt)
                    clear hzn ca
                    go_wp2_with (fail)
                    go_loopw [13, 15] (fun cm ci wr => ∃ (mb : Bool) (m : Nat) (cp : List Bool), cm = .bool mb ∧ 1 ≤ m ∧ m ≤ nn + 1 ∧ ci = .int .i64 (m : Int) ∧ cp.length = nn + 1 ∧ (∀ z ∈ t.roots, z ≠ 0 → cp.getD z.toNat false = true) ∧ (mb = true → cp.count false < cn.count false) ∧ (mb = false → cp = cn ∧ (∀ x ∈ t.kept.take i, Clo t cn x (nn + 1)) ∧ Clo t cn (zn : Int) m) ∧ LF w wr b t vo vp gk gc (nn + 1) ∧ Blk wr gc 4 (bcells cp)) (fun _ ci _ => nn + 1 - (intOf ci).toNat)
                    case atStart => exact ⟨mb, 1, cq, rfl, by omega, by omega, rfl, HCL6.out, HRT6.out, HMT6.out, fun h => ⟨(HMF6.out h).1, (HMF6.out h).2, fun _ y h1 h2 => by omega⟩, HF6.out, HB6.out⟩
                    case round =>
                      obtain ⟨mb, m, cq, rfl, hm1, hm2, rfl, hcl, hrt, hmt, hmf, hlf, hbc⟩ := hrel
                      have HCL7 := hid hcl
                      have HRT7 := hid hrt
                      have HMT7 := hid hmt
                      have HMF7 := hid hmf
                      have HF7 := hid hlf
                      have HB7 := hid hbc
                      clear hcl hrt hmt hmf hlf hbc
                      by_cases hlt2 : m < nn + 1
                      · have hmi : (m : Int) < (nn : Int) + 1 := by omega
                        have c1 : wr.cell? ⟨gc, zn, none⟩ = some (.bool (cq.getD zn false)) := (HB7.out.cell zn).trans (bcells_get (by rw [HCL7.out]; exact hzl))
                        have c2 : wr.cell? ⟨gc, m, none⟩ = some (.bool (cq.getD m false)) := (HB7.out.cell m).trans (bcells_get (by rw [HCL7.out]; exact hlt2))
                        obtain ⟨ga2, hga2, ca⟩ := own_at HF7.out.o HVo.out (i := i) (by rw [← HLo.out]; omega)
                        obtain rfl : ga = ga2 := by injection hga2 with e; injection e
                        rw [HZE.out] at ca
                        clear hga2
                        rcases hcz : cq.getD zn false with _ | _
                        · rw [hcz] at c1
                          have HCE : Hid (mb = false → cq = cn ∧ ∀ x ∈ t.kept.take (i + 1), Clo t cn x (nn + 1)) := fun h => by
                            obtain ⟨e, h1, h2⟩ := HMF7.out h
                            refine ⟨e, fun x hx => ?_⟩
                            rw [HTK.out] at hx
                            rcases List.mem_append.1 hx with hx | hx
                            · exact h1 x hx
                            · rw [List.mem_singleton.1 hx, HZE.out]
                              intro h3
                              rw [Int.toNat_natCast, ← e, hcz] at h3
                              cases h3
                          clear hcz
                          go_wp2_with (fail)
                          go_roundw
                          case rel => exact ⟨mb, i + 1, cq, rfl, by omega, by go_num, HCL7.out, HRT7.out, HMT7.out, HCE.out, HF7.out, HB7.out⟩
                          case measure => simp [intOf]; omega
                        · rw [hcz] at c1
                          clear hcz
                          rcases hcm : cq.getD m false with _ | _
                          · rw [hcm] at c2
                            have HCM := hid hcm
                            clear hcm
                            go_wp2_with (fail)
                            refine (l_keeps HF7.out.live (HKZ.out.has HOK.out) (m : Int) HB7.out HCL7.out (by rw [HNN.out])).mono ?_
                            rintro e wk ⟨rfl, kk⟩
                            have HF8 := hid (HF7.out.kp0 kk)
                            have HB8 := hid (HB7.out.kp kk (by simp))
                            clear kk c1 c2 ca
                            rcases hkb : t.keepB cq (zn : Int) (m : Int) with _ | _
                            · have HKB := hid hkb
                              clear hkb
                              go_wp2_with (fail)
                              go_roundw
                              case rel => exact ⟨mb, m + 1, cq, rfl, by omega, by omega, by go_num, HCL7.out, HRT7.out, HMT7.out, fun h => ⟨(HMF7.out h).1, (HMF7.out h).2.1, clo_snoc (HMF7.out h).2.2 (.inr (by rw [← (HMF7.out h).1]; exact HKB.out))⟩, HF8.out, HB8.out⟩
                              case measure => simp [intOf]; omega
                            · clear hkb
                              have c2 : wk.cell? ⟨gc, m, none⟩ = some (.bool (cq.getD m false)) := (HB8.out.cell m).trans (bcells_get (by rw [HCL7.out]; exact hlt2))
                              have cf := HB8.out.frozen m
                              go_wp2
                              go_roundw
                              case rel =>
                                have hs := HB8.out.set_ m (.bool true)
                                rw [bcells_set] at hs
                                refine ⟨true, m + 1, cq.set m true, rfl, by omega, by omega, by go_num, by rw [List.length_set]; exact HCL7.out, fun z hz h0 => set_getD (HRT7.out z hz h0), fun _ => ?_, fun h => by (cases h), HF8.out.chg (Kp.cell wk ⟨gc, m, none⟩ _), hs⟩
                                have h1 := cnt_setF (l := cq) (j := m) (by rw [HCL7.out]; exact hlt2) HCM.out
                                cases mb
                                · rw [(HMF7.out rfl).1] at h1 ⊢
                                  exact h1
                                · have := HMT7.out rfl
                                  omega
                              case measure => simp [intOf]; omega
                          · rw [hcm] at c2
                            have HCM := hid hcm
                            clear hcm
                            go_wp2_with (fail)
                            go_roundw
                            case rel => exact ⟨mb, m + 1, cq, rfl, by omega, by omega, by go_num, HCL7.out, HRT7.out, HMT7.out, fun h => ⟨(HMF7.out h).1, (HMF7.out h).2.1, clo_snoc (HMF7.out h).2.2 (.inl (by rw [← (HMF7.out h).1]; exact HCM.out))⟩, HF7.out, HB7.out⟩
                            case measure => simp [intOf]; omega
                      · obtain rfl : m = nn + 1 := by omega
                        have HCE : Hid (mb = false → cq = cn ∧ ∀ x ∈ t.kept.take (i + 1), Clo t cn x (nn + 1)) := fun h => by
                          obtain ⟨e, h1, h2⟩ := HMF7.out h
                          refine ⟨e, fun x hx => ?_⟩
                          rw [HTK.out] at hx
                          rcases List.mem_append.1 hx with hx | hx
                          · exact h1 x hx
                          · rw [List.mem_singleton.1 hx, HZE.out]
                            exact h2
                        clear hlt2
                        go_wp2_with (fail)
                        go_roundw
                        case rel => exact ⟨mb, i + 1, cq, rfl, by omega, by go_num, HCL7.out, HRT7.out, HMT7.out, HCE.out, HF7.out, HB7.out⟩
                        case measure => simp [intOf]; omega
                  · obtain rfl : lol = i := by omega
                    have HCE : Hid (mb = false → ∀ x ∈ t.kept, Clo t cq x (nn + 1)) := fun h => by
                      obtain ⟨e, h1⟩ := HMF6.out h
                      rw [HLo.out, List.take_length] at h1
                      rw [e]
                      exact h1
                    clear hlt
                    go_wp2_with (fail)
                    go_roundw
                    case rel => exact ⟨mb, cq, rfl, HCL6.out, HRT6.out, HCE.out, HF6.out, HB6.out⟩
                    case measure =>
                      rw [fz_of HB5.out HCL5.out, fz_of HB6.out HCL6.out]
                      cases mb
                      · rw [(HMF6.out rfl).1]
                        simp [boolOf]
                      · have := HMT6.out rfl
                        simp [boolOf]
                        omega
end
end Go.Proofs.YtbiompmklijgoaaDoor
