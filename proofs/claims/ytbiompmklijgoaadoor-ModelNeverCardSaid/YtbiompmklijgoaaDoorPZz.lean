/-
  ModelNever's walk. Conditions: those that stand in each theorem.
-/
import Derived.Test.YtbiompmklijgoaaDoorPZy
import Derived.Test.YtbiompmklijgoaaDoorPZv
namespace Go.Proofs.YtbiompmklijgoaaDoor
set_option linter.unusedVariables false
set_option linter.unusedSimpArgs false
open Go.RowKit Go.Deep Go.Maps

section
variable {w w' W V : World} {t : MT}
theorem own_atv {W : World} {e : TypeId} {v : Value} {n : Nat} {xs : List Value} (own : W.ownsRow 0 e 1 v n xs) {A : Option Addr} {m c : Nat} (hv : v = .slice A m c) {i : Nat} (hi : i < n) (hx : xs.length = n) : ∃ g, A = some ⟨g, 0, none⟩ ∧ W.cell? ⟨g, i, none⟩ = some (xs.getD i undef) := by
  rcases id own.2 with ⟨h1, h0⟩ | ⟨g, cap, cur, h1, _⟩
  · omega
  · rw [hv] at h1
    injection h1 with e1 e2 e3
    subst e1 e2 e3
    rw [hv] at own
    refine ⟨g, rfl, ?_⟩
    rw [own.cellAt i (by omega), List.getD_eq_getElem?_getD, List.getElem?_eq_getElem (by omega)]
    rfl
set_option maxRecDepth 100000 in
set_option maxHeartbeats 2000000 in
theorem model_never (hlz : LZ w) {mu : Int} {A : Option Addr} {len cap : Nat} {X : Nat → SP} (HX : StepsR w A len X) {s : SP} (hs : s.Ok) :
    Calls Tryd.prog 5 #[.int .i64 mu, .slice A len cap, .agg s.cells] w (TrueP w) := by
  have hbx := Blk.new w 37 #[.int .i64 s.k, .int .i64 s.mu, .int .i64 s.act.k, .int .i64 s.act.a, .int .i64 s.act.b, .int .i64 s.act.i, .int .i64 s.act.n, .int .i64 s.act.r, .int .i64 s.act.d, .int .i64 s.act.s, .int .i64 s.a, .int .i64 s.b, .int .i64 s.c]
  have hk1 := Kp.new w (.cells #[.int .i64 s.k, .int .i64 s.mu, .int .i64 s.act.k, .int .i64 s.act.a, .int .i64 s.act.b, .int .i64 s.act.i, .int .i64 s.act.n, .int .i64 s.act.r, .int .i64 s.act.d, .int .i64 s.act.s, .int .i64 s.a, .int .i64 s.b, .int .i64 s.c] 37)
  have HKB := hid hk1
  have HSO := hid hs
  have HLZ1 := hid (hlz.kp0 hk1)
  have HST1 := hid (HX.kp0 hk1)
  have HBX := hid hbx
  clear hlz HX hs hbx hk1
  unfold SP.cells
  by_cases hbad : ¬ (1 ≤ mu ∧ mu ≤ 4) ∨ 120 < len
  · have HBAD := hid hbad
    clear hbad
    go_enter Tryd.func5, Tryd.ntmps5
    go_wp2_with (fail)
    refine (m_made_no HLZ1.out mu HBAD.out).mono ?_
    rintro e w2 ⟨rfl, k2⟩
    have HK2 := hid (HKB.out.chain k2)
    have HL2 := hid (HLZ1.out.kp0 k2)
    clear k2
    go_wp2_with (fail)
    refine (m_alive HL2.out).mono ?_
    rintro e w3 ⟨rfl, k3⟩
    have HK3 := hid (HK2.out.chain k3)
    clear k3
    go_wp2
    go_ret
    exact ⟨rfl, HK3.out⟩
  · obtain ⟨n, rfl⟩ : ∃ n : Nat, mu = (n : Int) := ⟨mu.toNat, by omega⟩
    have hn1 : 1 ≤ n := by omega
    have hn4 : n ≤ 4 := by omega
    have hl : len ≤ 120 := by omega
    clear hbad
    have hob := madeT_ob n X len
    go_enter Tryd.func5, Tryd.ntmps5
    go_wp2_with (fail)
    generalize w.alloc (.cells #[.int .i64 s.k, .int .i64 s.mu, .int .i64 s.act.k, .int .i64 s.act.a, .int .i64 s.act.b, .int .i64 s.act.i, .int .i64 s.act.n, .int .i64 s.act.r, .int .i64 s.act.d, .int .i64 s.act.s, .int .i64 s.a, .int .i64 s.b, .int .i64 s.c] 37) = w1 at HKB HLZ1 HST1 HBX ⊢
    generalize w.heap.size = gb at HBX ⊢
    refine (m_made_ok HLZ1.out n hn1 hn4 HST1.out hl).mono ?_
    rintro e w2 ⟨g, rfl, v2, k2⟩
    obtain ⟨b, hbg, Rm, nm⟩ := v2.mr
    have HNB : Hid (∀ x ∈ b.all, w1.heap.size ≤ x) := fun x hx => Nat.le_of_not_lt fun h => nm x (List.mem_range.2 h) hx
    have HRM := hid Rm
    have HK2 := hid k2
    clear v2 k2 Rm nm
    subst hbg
    generalize madeT n X len = t at HRM hob
    have HOK := hid HRM.out.ok
    obtain ⟨nn, hnn⟩ : ∃ nn, nn = t.ob.length := ⟨_, rfl⟩
    have HNN : Hid (t.ob.length = nn) := hnn.symm
    have hnl : nn ≤ 120 := by omega
    have HAS : Hid (∀ k : Nat, 1 ≤ k → k ≤ nn → t.has (k : Int) = true) := fun k h1 h2 => decide_eq_true ⟨by omega, by rw [HNN.out]; omega⟩
    clear hnn hob
    go_wp2_with (fail)
    refine (m_births HRM.out).mono ?_
    rintro e w3 ⟨rfl, k3⟩
    rw [HNN.out]
    have HG0 := hid (GL.nil (HRM.out.kp0 k3) (HK2.out.chain k3) HNB.out)
    clear k3
    generalize w3.heap.size = B0 at HG0
    go_wp2_with (fail)
    go_loopw [9, 10] (fun co cn wr => ∃ (n : Nat) (vs : List Value) (lv : Value), lv = co ∧ 1 ≤ n ∧ n ≤ nn + 1 ∧ cn = .int .i64 (n : Int) ∧ vs.length + 1 = n ∧ GL w1 wr b t B0 vs lv) (fun _ cn _ => nn + 1 - (intOf cn).toNat)
    case atStart => exact ⟨1, [], _, rfl, by omega, by omega, rfl, rfl, HG0.out⟩
    case round =>
      obtain ⟨n, vs, lv, hlv, hm1, hm2, rfl, hvl, hgl⟩ := hrel
      subst hlv
      have HG := hid hgl
      clear hgl
      by_cases hlt : n ≤ nn
      · have hli : (n : Int) ≤ (nn : Int) := by omega
        go_wp2_with (fail)
        refine (m_contents HG.out.r (HAS.out n hm1 hlt)).mono ?_
        rintro e w4 ⟨vc, rfl, own4, k4⟩
        obtain ⟨Ac, cc, rfl⟩ := own_slicez own4
        have en : (n : Int) = (vs.length : Int) + 1 := by omega
        have HO4 : Hid (w4.ownsRow wr.heap.size 3 1 (.slice Ac (t.cont (n : Int)).length cc) (t.cont ((vs.length : Int) + 1)).length (zcells (t.cont ((vs.length : Int) + 1)))) := by
          show w4.ownsRow _ _ _ _ _ _
          rw [← en]
          exact own4
        have HG4 := hid (HG.out.kp0 k4)
        clear own4 k4 en
        go_wp2_with (first
          | (at_builtin; refine wpList_gl rfl (.tmp 28) (.tmp 32) rfl HG4.out (by omega) HG.out HO4.out rfl rfl ?_; intro v9 w9 hg9; have HG9 := hid hg9; clear hg9)
          | fail)
        go_roundw
        case rel => exact ⟨n + 1, _, _, rfl, by omega, by omega, by go_num, by rw [List.length_append]; simp; omega, HG9.out⟩
        case measure => simp [intOf]; omega
      · obtain rfl : n = nn + 1 := by omega
        clear hlt
        obtain ⟨Av, cv, hlv⟩ := own_slicez HG.out.o
        have hvn : vs.length = nn := by omega
        rw [hvn] at hlv
        have HLV := hid hlv
        have HVN := hid hvn
        have hbw := HBX.out.kp HG.out.k (by simp)
        have HBW := hid hbw
        have d0 := hbw.cell 0
        have d1 := hbw.cell 1
        have d2 := hbw.cell 2
        have d3 := hbw.cell 3
        have d4 := hbw.cell 4
        have d5 := hbw.cell 5
        have d6 := hbw.cell 6
        have d7 := hbw.cell 7
        have d8 := hbw.cell 8
        have d9 := hbw.cell 9
        have d10 := hbw.cell 10
        have d11 := hbw.cell 11
        have d12 := hbw.cell 12
        have HOB : Hid (t.ob.length < 100000) := by show _ < _; rw [HNN.out]; omega
        clear hbw hvl hvn hm1 hm2
        rw [hlv]
        clear hlv
        by_cases hk0 : s.k = 0
        · have q0 : (s.k == 0) = true := by simpa using hk0
          have q4 : (s.k == 4) = false := by simp; omega
          by_cases h6 : s.act.k = 6
          · have q6 : (s.act.k != 6) = false := by simpa using h6
            have HOF : Hid (t.ofI s = 0) := by
              show _ = _
              unfold MT.ofI
              rw [if_neg (fun h => h.2 h6), if_neg (by omega)]
            clear hk0 h6
            go_wp2_with (fail)
            refine (l_do (offB_live HG.out.r) HOB.out s HSO.out).mono ?_
            rintro e w5 ⟨rfl, v5, s5⟩
            have HD := hid (HG.out.stay s5)
            have HV5 := hid v5
            have HB5 := hid (HBX.out.kp HD.out.k (by simp))
            have HDC : Hid (∀ k : Nat, 1 ≤ k → k ≤ nn → ((t.dos s).1.has (k : Int) = true ∧ ((t.dos s).1.cont (k : Int)).length = (t.cont (k : Int)).length ∧ ((t.dos s).1.cont (k : Int)).getD 0 0 = (t.cont (k : Int)).getD 0 0 ∧ ((t.dos s).1.cont (k : Int)).getD 2 0 = (t.cont (k : Int)).getD 2 0 ∧ (s.k ≠ 1 → (k : Int) ≠ (0 : Int) → (t.dos s).1.cont (k : Int) = t.cont (k : Int)))) := fun k h1 h2 => by
              have := HOK.out.dos_cont (s := s) (HAS.out k h1 h2)
              rw [HOF.out] at this
              exact this
            have HNB2 : Hid (nn ≤ (t.dos s).1.ob.length ∧ (t.dos s).1.ob.length ≤ nn + 1) := by
              have h1 := t.dos_ob s
              obtain ⟨l, h2⟩ := t.dos_pre s
              rw [HNN.out] at h1
              refine ⟨?_, h1⟩
              rw [h2, List.length_append, HNN.out]
              omega
            clear v5 s5 d0 d1 d2 d3 d4 d5 d6 d7 d8 d9 d10 d11 d12 HG HBW
            generalize (t.dos s).1 = t' at HV5 HDC HNB2
            go_wp2_with (fail)
            go_loopw [11, 13] (fun cc cn wr => ∃ (c n : Nat), cc = .int .i64 (c : Int) ∧ 1 ≤ n ∧ n ≤ nn + 1 ∧ cn = .int .i64 (n : Int) ∧ c ≤ n ∧ (s.k ≠ 1 → c ≤ 1 ∧ ((n : Int) ≤ (0 : Int) → c = 0)) ∧ Kp [] w5 wr) (fun _ cn _ => nn + 1 - (intOf cn).toNat)
            case atStart => exact ⟨0, 1, rfl, by omega, by omega, rfl, by omega, fun _ => ⟨by omega, fun _ => rfl⟩, Kp.refl _ _⟩
            case round =>
              obtain ⟨c, n, rfl, hm1, hm2, rfl, hcn, hcs, hkp⟩ := hrel
              have HCS := hid hcs
              have HKP := hid hkp
              clear hcs hkp
              by_cases hlt : n ≤ nn
              · have hli : (n : Int) ≤ (nn : Int) := by omega
                obtain ⟨e1, e2, e3, e4, e5⟩ := HDC.out n hm1 hlt
                have HE5 := hid e5
                go_wp2_with (fail)
                refine (l_contents (HV5.out.kp0 HKP.out).1 e1).mono ?_
                rintro e w6 ⟨vn, M, rfl, ki6, _, _, _, k6⟩
                obtain ⟨An, cn, hvn⟩ := own_slicez ki6.1
                obtain ⟨j, hj⟩ : ∃ j, n = j + 1 := ⟨n - 1, by omega⟩
                have hjn : (j : Int) + 1 = (n : Int) := by omega
                have HK6 := hid (HKP.out.chain k6)
                have D6 := HD.out.kp0 HK6.out
                obtain ⟨gv, hgv, cov⟩ := own_atv D6.o HLV.out (i := j) (by rw [HVN.out]; omega) rfl
                have oj := D6.e j (by rw [HVN.out]; omega)
                rw [hjn] at oj
                obtain ⟨Aj, cj, hvj⟩ := own_slicez oj
                have h3 : 3 ≤ (t.cont (n : Int)).length := by rw [ctLen]; omega
                rw [e2] at hvn
                obtain ⟨gn, hgn, cn0⟩ := own_at ki6.1 hvn (i := 0) (by rw [e2]; omega)
                obtain ⟨gn2, hgn2, cn2⟩ := own_at ki6.1 hvn (i := 2) (by rw [e2]; omega)
                obtain ⟨gj, hgj, cj0⟩ := own_at oj hvj (i := 0) (by omega)
                obtain ⟨gj2, hgj2, cj2⟩ := own_at oj hvj (i := 2) (by omega)
                rw [hgn] at hgn2
                rw [hgj] at hgj2
                obtain rfl : gn = gn2 := by injection hgn2 with e; injection e
                obtain rfl : gj = gj2 := by injection hgj2 with e; injection e
                subst hgv hgn hgj
                rw [e3] at cn0
                rw [e4] at cn2
                rw [hvj] at cov
                have HN1 : Hid (IsN w6 (.slice (some ⟨gn, 0, none⟩) (t.cont (n : Int)).length cn) (t'.cont (n : Int))) := by
                  rw [← hvn]
                  exact IsN.of_own ki6.1 (by rw [e2, ctLen]; have := HRM.out.shape15 (HAS.out n hm1 hlt); omega)
                have HN2 : Hid (IsN w6 (.slice (some ⟨gj, 0, none⟩) (t.cont (n : Int)).length cj) (t.cont (n : Int))) := by
                  rw [← hvj]
                  exact IsN.of_own oj (by rw [ctLen]; have := HRM.out.shape15 (HAS.out n hm1 hlt); omega)
                rw [hvn]
                have HCOV := hid cov
                obtain ⟨ll, hll⟩ : ∃ ll, ll = (t.cont (n : Int)).length := ⟨_, rfl⟩
                rw [← hll] at h3 cov HN1 HN2 HCOV ⊢
                have hl0 : (0 : Int) < (ll : Int) := by omega
                have hl2 : (2 : Int) < (ll : Int) := by omega
                have hsub : (n : Int) - 1 = (j : Int) := by omega
                have hjl : (j : Int) < (nn : Int) := by omega
                have hwj : wrap64 ((n : Int) - 1) = (j : Int) := by
                  rw [hsub]
                  exact IntWalk.wrap64_in _ ⟨by omega, by omega⟩
                clear ki6 k6 hvn hvj oj D6 hj hjn hgn2 hgj2 hll e1 e2 e3 e4 e5
                generalize (t.cont (n : Int)).getD 0 0 = r0 at cn0 cj0
                generalize (t.cont (n : Int)).getD 2 0 = r2 at cn2 cj2
                go_wp2_with (fail)
                go_quiet (fail)
                have HK7 := hid (HK6.out.drewN nq)
                have cov7 := cell_kp (Kp.draw w6 nq) HCOV.out
                have HN17 := hid (HN1.out.kp0 (Kp.draw w6 nq))
                have HN27 := hid (HN2.out.kp0 (Kp.draw w6 nq))
                clear cn0 cn2 cj0 cj2 cov HCOV HN1 HN2
                generalize w6.drewN nq = w7 at HK7 cov7 HN17 HN27 ⊢
                go_wp2_with (fail)
                refine (m_ints HN17.out HN27.out).mono ?_
                rintro e w8 ⟨rfl, k8⟩
                have HK8 := hid (HK7.out.chain k8)
                have f0 := (HB5.out.kp HK8.out (by simp)).cell 0
                clear k8 cov7
                rcases hq : eqL (t'.cont (n : Int)) (t.cont (n : Int)) with _ | _
                · have hne : t'.cont (n : Int) ≠ t.cont (n : Int) := of_decide_eq_false hq
                  clear hq
                  by_cases hk1 : s.k = 1
                  · have q1 : (s.k != 1) = false := by simpa using hk1
                    have HK1 := hid hk1
                    clear hk1 hne
                    go_wp2_with (fail)
                    go_roundw
                    case rel => exact ⟨c + 1, n + 1, by go_num, by omega, by omega, by go_num, by omega, fun h => absurd HK1.out h, HK8.out⟩
                    case measure => simp [intOf]; omega
                  · have q1 : (s.k != 1) = true := by simpa using hk1
                    have hof : (n : Int) = (0 : Int) := by
                      rcases Decidable.em ((n : Int) = (0 : Int)) with h | h
                      · exact h
                      · exact absurd (HE5.out hk1 h) hne
                    have q9 : ((n : Int) != (0 : Int)) = false := by simpa using hof
                    obtain ⟨_, hc0⟩ := HCS.out hk1
                    have hc0 := hc0 (by omega)
                    have HOF2 := hid hof
                    have HC0 := hid hc0
                    clear hk1 hne hof hc0
                    go_wp2_with (fail)
                    go_roundw
                    case rel => exact ⟨c + 1, n + 1, by go_num, by omega, by omega, by go_num, by omega, fun _ => ⟨by have := HC0.out; omega, fun h => by have := HOF2.out; omega⟩, HK8.out⟩
                    case measure => simp [intOf]; omega
                · clear hq
                  go_wp2_with (fail)
                  go_roundw
                  case rel => exact ⟨c, n + 1, rfl, by omega, by omega, by go_num, by omega, fun h => ⟨(HCS.out h).1, fun h2 => (HCS.out h).2 (by omega)⟩, HK8.out⟩
                  case measure => simp [intOf]; omega
              · obtain rfl : n = nn + 1 := by omega
                clear hlt
                obtain ⟨nb, hnb⟩ : ∃ nb, nb = t'.ob.length := ⟨_, rfl⟩
                have hb1 : (nn : Int) ≤ (nb : Int) := by have := HNB2.out; omega
                have hb2 : (nb : Int) ≤ (nn : Int) + 1 := by have := HNB2.out; omega
                have HNB3 := hid hnb
                clear hnb
                go_wp2_with (fail)
                refine (l_births (HV5.out.kp0 HKP.out).1).mono ?_
                rintro e w6 ⟨rfl, k6⟩
                rw [← HNB3.out]
                have HK6 := hid (HKP.out.chain k6)
                clear k6
                go_wp2_with (fail)
                refine (l_births (HV5.out.kp0 HK6.out).1).mono ?_
                rintro e w7 ⟨rfl, k7⟩
                rw [← HNB3.out]
                have HK7 := hid (HK6.out.chain k7)
                have f0 := (HB5.out.kp HK7.out (by simp)).cell 0
                clear k7
                by_cases hk1 : s.k = 1
                · have q1 : (s.k == 1) = true := by simpa using hk1
                  clear hk1
                  go_wp2_with (fail)
                  refine (m_alive (HLZ1.out.kp0 (HD.out.k.chain HK7.out))).mono ?_
                  rintro e wz ⟨rfl, kz⟩
                  have HKZ := hid (((HKB.out.chain HD.out.k).chain HK7.out).chain kz)
                  clear kz
                  go_wp2
                  go_ret
                  exact ⟨rfl, HKZ.out⟩
                · have q1 : (s.k == 1) = false := by simpa using hk1
                  have hc1 : (c : Int) ≤ 1 := by have := (HCS.out hk1).1; omega
                  clear hk1
                  go_wp2_with (fail)
                  refine (m_alive (HLZ1.out.kp0 (HD.out.k.chain HK7.out))).mono ?_
                  rintro e wz ⟨rfl, kz⟩
                  have HKZ := hid (((HKB.out.chain HD.out.k).chain HK7.out).chain kz)
                  clear kz
                  go_wp2
                  go_ret
                  exact ⟨rfl, HKZ.out⟩
          · have q6 : (s.act.k != 6) = true := by simpa using h6
            have HOF : Hid (t.ofI s = t.sloV s.mu s.act.a) := by
              show _ = _
              unfold MT.ofI
              rw [if_pos ⟨hk0, h6⟩]
            clear hk0 h6
            go_wp2_with (fail)
            refine (m_slot HG.out.r s.mu s.act.a).mono ?_
            rintro e wq ⟨rfl, kq⟩
            have HGq := hid (HG.out.kp0 kq)
            have HBq := hid (HBW.out.kp kq (by simp))
            clear kq HG HBW d0 d1 d2 d3 d4 d5 d6 d7 d8 d9 d10 d11 d12
            have HG := HGq
            have HBW := HBq
            clear HGq HBq
            have d0 := HBW.out.cell 0
            have d1 := HBW.out.cell 1
            have d2 := HBW.out.cell 2
            have d3 := HBW.out.cell 3
            have d4 := HBW.out.cell 4
            have d5 := HBW.out.cell 5
            have d6 := HBW.out.cell 6
            have d7 := HBW.out.cell 7
            have d8 := HBW.out.cell 8
            have d9 := HBW.out.cell 9
            have d10 := HBW.out.cell 10
            have d11 := HBW.out.cell 11
            have d12 := HBW.out.cell 12
            generalize t.sloV s.mu s.act.a = ofv at HOF ⊢
            go_wp2_with (fail)
            refine (l_do (offB_live HG.out.r) HOB.out s HSO.out).mono ?_
            rintro e w5 ⟨rfl, v5, s5⟩
            have HD := hid (HG.out.stay s5)
            have HV5 := hid v5
            have HB5 := hid (HBX.out.kp HD.out.k (by simp))
            have HDC : Hid (∀ k : Nat, 1 ≤ k → k ≤ nn → ((t.dos s).1.has (k : Int) = true ∧ ((t.dos s).1.cont (k : Int)).length = (t.cont (k : Int)).length ∧ ((t.dos s).1.cont (k : Int)).getD 0 0 = (t.cont (k : Int)).getD 0 0 ∧ ((t.dos s).1.cont (k : Int)).getD 2 0 = (t.cont (k : Int)).getD 2 0 ∧ (s.k ≠ 1 → (k : Int) ≠ ofv → (t.dos s).1.cont (k : Int) = t.cont (k : Int)))) := fun k h1 h2 => by
              have := HOK.out.dos_cont (s := s) (HAS.out k h1 h2)
              rw [HOF.out] at this
              exact this
            have HNB2 : Hid (nn ≤ (t.dos s).1.ob.length ∧ (t.dos s).1.ob.length ≤ nn + 1) := by
              have h1 := t.dos_ob s
              obtain ⟨l, h2⟩ := t.dos_pre s
              rw [HNN.out] at h1
              refine ⟨?_, h1⟩
              rw [h2, List.length_append, HNN.out]
              omega
            clear v5 s5 d0 d1 d2 d3 d4 d5 d6 d7 d8 d9 d10 d11 d12 HG HBW
            generalize (t.dos s).1 = t' at HV5 HDC HNB2
            go_wp2_with (fail)
            go_loopw [11, 13] (fun cc cn wr => ∃ (c n : Nat), cc = .int .i64 (c : Int) ∧ 1 ≤ n ∧ n ≤ nn + 1 ∧ cn = .int .i64 (n : Int) ∧ c ≤ n ∧ (s.k ≠ 1 → c ≤ 1 ∧ ((n : Int) ≤ ofv → c = 0)) ∧ Kp [] w5 wr) (fun _ cn _ => nn + 1 - (intOf cn).toNat)
            case atStart => exact ⟨0, 1, rfl, by omega, by omega, rfl, by omega, fun _ => ⟨by omega, fun _ => rfl⟩, Kp.refl _ _⟩
            case round =>
              obtain ⟨c, n, rfl, hm1, hm2, rfl, hcn, hcs, hkp⟩ := hrel
              have HCS := hid hcs
              have HKP := hid hkp
              clear hcs hkp
              by_cases hlt : n ≤ nn
              · have hli : (n : Int) ≤ (nn : Int) := by omega
                obtain ⟨e1, e2, e3, e4, e5⟩ := HDC.out n hm1 hlt
                have HE5 := hid e5
                go_wp2_with (fail)
                refine (l_contents (HV5.out.kp0 HKP.out).1 e1).mono ?_
                rintro e w6 ⟨vn, M, rfl, ki6, _, _, _, k6⟩
                obtain ⟨An, cn, hvn⟩ := own_slicez ki6.1
                obtain ⟨j, hj⟩ : ∃ j, n = j + 1 := ⟨n - 1, by omega⟩
                have hjn : (j : Int) + 1 = (n : Int) := by omega
                have HK6 := hid (HKP.out.chain k6)
                have D6 := HD.out.kp0 HK6.out
                obtain ⟨gv, hgv, cov⟩ := own_atv D6.o HLV.out (i := j) (by rw [HVN.out]; omega) rfl
                have oj := D6.e j (by rw [HVN.out]; omega)
                rw [hjn] at oj
                obtain ⟨Aj, cj, hvj⟩ := own_slicez oj
                have h3 : 3 ≤ (t.cont (n : Int)).length := by rw [ctLen]; omega
                rw [e2] at hvn
                obtain ⟨gn, hgn, cn0⟩ := own_at ki6.1 hvn (i := 0) (by rw [e2]; omega)
                obtain ⟨gn2, hgn2, cn2⟩ := own_at ki6.1 hvn (i := 2) (by rw [e2]; omega)
                obtain ⟨gj, hgj, cj0⟩ := own_at oj hvj (i := 0) (by omega)
                obtain ⟨gj2, hgj2, cj2⟩ := own_at oj hvj (i := 2) (by omega)
                rw [hgn] at hgn2
                rw [hgj] at hgj2
                obtain rfl : gn = gn2 := by injection hgn2 with e; injection e
                obtain rfl : gj = gj2 := by injection hgj2 with e; injection e
                subst hgv hgn hgj
                rw [e3] at cn0
                rw [e4] at cn2
                rw [hvj] at cov
                have HN1 : Hid (IsN w6 (.slice (some ⟨gn, 0, none⟩) (t.cont (n : Int)).length cn) (t'.cont (n : Int))) := by
                  rw [← hvn]
                  exact IsN.of_own ki6.1 (by rw [e2, ctLen]; have := HRM.out.shape15 (HAS.out n hm1 hlt); omega)
                have HN2 : Hid (IsN w6 (.slice (some ⟨gj, 0, none⟩) (t.cont (n : Int)).length cj) (t.cont (n : Int))) := by
                  rw [← hvj]
                  exact IsN.of_own oj (by rw [ctLen]; have := HRM.out.shape15 (HAS.out n hm1 hlt); omega)
                rw [hvn]
                have HCOV := hid cov
                obtain ⟨ll, hll⟩ : ∃ ll, ll = (t.cont (n : Int)).length := ⟨_, rfl⟩
                rw [← hll] at h3 cov HN1 HN2 HCOV ⊢
                have hl0 : (0 : Int) < (ll : Int) := by omega
                have hl2 : (2 : Int) < (ll : Int) := by omega
                have hsub : (n : Int) - 1 = (j : Int) := by omega
                have hjl : (j : Int) < (nn : Int) := by omega
                have hwj : wrap64 ((n : Int) - 1) = (j : Int) := by
                  rw [hsub]
                  exact IntWalk.wrap64_in _ ⟨by omega, by omega⟩
                clear ki6 k6 hvn hvj oj D6 hj hjn hgn2 hgj2 hll e1 e2 e3 e4 e5
                generalize (t.cont (n : Int)).getD 0 0 = r0 at cn0 cj0
                generalize (t.cont (n : Int)).getD 2 0 = r2 at cn2 cj2
                go_wp2_with (fail)
                go_quiet (fail)
                have HK7 := hid (HK6.out.drewN nq)
                have cov7 := cell_kp (Kp.draw w6 nq) HCOV.out
                have HN17 := hid (HN1.out.kp0 (Kp.draw w6 nq))
                have HN27 := hid (HN2.out.kp0 (Kp.draw w6 nq))
                clear cn0 cn2 cj0 cj2 cov HCOV HN1 HN2
                generalize w6.drewN nq = w7 at HK7 cov7 HN17 HN27 ⊢
                go_wp2_with (fail)
                refine (m_ints HN17.out HN27.out).mono ?_
                rintro e w8 ⟨rfl, k8⟩
                have HK8 := hid (HK7.out.chain k8)
                have f0 := (HB5.out.kp HK8.out (by simp)).cell 0
                clear k8 cov7
                rcases hq : eqL (t'.cont (n : Int)) (t.cont (n : Int)) with _ | _
                · have hne : t'.cont (n : Int) ≠ t.cont (n : Int) := of_decide_eq_false hq
                  clear hq
                  by_cases hk1 : s.k = 1
                  · have q1 : (s.k != 1) = false := by simpa using hk1
                    have HK1 := hid hk1
                    clear hk1 hne
                    go_wp2_with (fail)
                    go_roundw
                    case rel => exact ⟨c + 1, n + 1, by go_num, by omega, by omega, by go_num, by omega, fun h => absurd HK1.out h, HK8.out⟩
                    case measure => simp [intOf]; omega
                  · have q1 : (s.k != 1) = true := by simpa using hk1
                    have hof : (n : Int) = ofv := by
                      rcases Decidable.em ((n : Int) = ofv) with h | h
                      · exact h
                      · exact absurd (HE5.out hk1 h) hne
                    have q9 : ((n : Int) != ofv) = false := by simpa using hof
                    obtain ⟨_, hc0⟩ := HCS.out hk1
                    have hc0 := hc0 (by omega)
                    have HOF2 := hid hof
                    have HC0 := hid hc0
                    clear hk1 hne hof hc0
                    go_wp2_with (fail)
                    go_roundw
                    case rel => exact ⟨c + 1, n + 1, by go_num, by omega, by omega, by go_num, by omega, fun _ => ⟨by have := HC0.out; omega, fun h => by have := HOF2.out; omega⟩, HK8.out⟩
                    case measure => simp [intOf]; omega
                · clear hq
                  go_wp2_with (fail)
                  go_roundw
                  case rel => exact ⟨c, n + 1, rfl, by omega, by omega, by go_num, by omega, fun h => ⟨(HCS.out h).1, fun h2 => (HCS.out h).2 (by omega)⟩, HK8.out⟩
                  case measure => simp [intOf]; omega
              · obtain rfl : n = nn + 1 := by omega
                clear hlt
                obtain ⟨nb, hnb⟩ : ∃ nb, nb = t'.ob.length := ⟨_, rfl⟩
                have hb1 : (nn : Int) ≤ (nb : Int) := by have := HNB2.out; omega
                have hb2 : (nb : Int) ≤ (nn : Int) + 1 := by have := HNB2.out; omega
                have HNB3 := hid hnb
                clear hnb
                go_wp2_with (fail)
                refine (l_births (HV5.out.kp0 HKP.out).1).mono ?_
                rintro e w6 ⟨rfl, k6⟩
                rw [← HNB3.out]
                have HK6 := hid (HKP.out.chain k6)
                clear k6
                go_wp2_with (fail)
                refine (l_births (HV5.out.kp0 HK6.out).1).mono ?_
                rintro e w7 ⟨rfl, k7⟩
                rw [← HNB3.out]
                have HK7 := hid (HK6.out.chain k7)
                have f0 := (HB5.out.kp HK7.out (by simp)).cell 0
                clear k7
                by_cases hk1 : s.k = 1
                · have q1 : (s.k == 1) = true := by simpa using hk1
                  clear hk1
                  go_wp2_with (fail)
                  refine (m_alive (HLZ1.out.kp0 (HD.out.k.chain HK7.out))).mono ?_
                  rintro e wz ⟨rfl, kz⟩
                  have HKZ := hid (((HKB.out.chain HD.out.k).chain HK7.out).chain kz)
                  clear kz
                  go_wp2
                  go_ret
                  exact ⟨rfl, HKZ.out⟩
                · have q1 : (s.k == 1) = false := by simpa using hk1
                  have hc1 : (c : Int) ≤ 1 := by have := (HCS.out hk1).1; omega
                  clear hk1
                  go_wp2_with (fail)
                  refine (m_alive (HLZ1.out.kp0 (HD.out.k.chain HK7.out))).mono ?_
                  rintro e wz ⟨rfl, kz⟩
                  have HKZ := hid (((HKB.out.chain HD.out.k).chain HK7.out).chain kz)
                  clear kz
                  go_wp2
                  go_ret
                  exact ⟨rfl, HKZ.out⟩
        · have q0 : (s.k == 0) = false := by simpa using hk0
          by_cases hk4 : s.k = 4
          · have q4 : (s.k == 4) = true := by simpa using hk4
            have HOF : Hid (t.ofI s = s.a) := by
              show _ = _
              unfold MT.ofI
              rw [if_neg (fun h => hk0 h.1), if_pos hk4]
            clear hk0 hk4
            go_wp2_with (fail)
            refine (l_do (offB_live HG.out.r) HOB.out s HSO.out).mono ?_
            rintro e w5 ⟨rfl, v5, s5⟩
            have HD := hid (HG.out.stay s5)
            have HV5 := hid v5
            have HB5 := hid (HBX.out.kp HD.out.k (by simp))
            have HDC : Hid (∀ k : Nat, 1 ≤ k → k ≤ nn → ((t.dos s).1.has (k : Int) = true ∧ ((t.dos s).1.cont (k : Int)).length = (t.cont (k : Int)).length ∧ ((t.dos s).1.cont (k : Int)).getD 0 0 = (t.cont (k : Int)).getD 0 0 ∧ ((t.dos s).1.cont (k : Int)).getD 2 0 = (t.cont (k : Int)).getD 2 0 ∧ (s.k ≠ 1 → (k : Int) ≠ s.a → (t.dos s).1.cont (k : Int) = t.cont (k : Int)))) := fun k h1 h2 => by
              have := HOK.out.dos_cont (s := s) (HAS.out k h1 h2)
              rw [HOF.out] at this
              exact this
            have HNB2 : Hid (nn ≤ (t.dos s).1.ob.length ∧ (t.dos s).1.ob.length ≤ nn + 1) := by
              have h1 := t.dos_ob s
              obtain ⟨l, h2⟩ := t.dos_pre s
              rw [HNN.out] at h1
              refine ⟨?_, h1⟩
              rw [h2, List.length_append, HNN.out]
              omega
            clear v5 s5 d0 d1 d2 d3 d4 d5 d6 d7 d8 d9 d10 d11 d12 HG HBW
            generalize (t.dos s).1 = t' at HV5 HDC HNB2
            go_wp2_with (fail)
            go_loopw [11, 13] (fun cc cn wr => ∃ (c n : Nat), cc = .int .i64 (c : Int) ∧ 1 ≤ n ∧ n ≤ nn + 1 ∧ cn = .int .i64 (n : Int) ∧ c ≤ n ∧ (s.k ≠ 1 → c ≤ 1 ∧ ((n : Int) ≤ s.a → c = 0)) ∧ Kp [] w5 wr) (fun _ cn _ => nn + 1 - (intOf cn).toNat)
            case atStart => exact ⟨0, 1, rfl, by omega, by omega, rfl, by omega, fun _ => ⟨by omega, fun _ => rfl⟩, Kp.refl _ _⟩
            case round =>
              obtain ⟨c, n, rfl, hm1, hm2, rfl, hcn, hcs, hkp⟩ := hrel
              have HCS := hid hcs
              have HKP := hid hkp
              clear hcs hkp
              by_cases hlt : n ≤ nn
              · have hli : (n : Int) ≤ (nn : Int) := by omega
                obtain ⟨e1, e2, e3, e4, e5⟩ := HDC.out n hm1 hlt
                have HE5 := hid e5
                go_wp2_with (fail)
                refine (l_contents (HV5.out.kp0 HKP.out).1 e1).mono ?_
                rintro e w6 ⟨vn, M, rfl, ki6, _, _, _, k6⟩
                obtain ⟨An, cn, hvn⟩ := own_slicez ki6.1
                obtain ⟨j, hj⟩ : ∃ j, n = j + 1 := ⟨n - 1, by omega⟩
                have hjn : (j : Int) + 1 = (n : Int) := by omega
                have HK6 := hid (HKP.out.chain k6)
                have D6 := HD.out.kp0 HK6.out
                obtain ⟨gv, hgv, cov⟩ := own_atv D6.o HLV.out (i := j) (by rw [HVN.out]; omega) rfl
                have oj := D6.e j (by rw [HVN.out]; omega)
                rw [hjn] at oj
                obtain ⟨Aj, cj, hvj⟩ := own_slicez oj
                have h3 : 3 ≤ (t.cont (n : Int)).length := by rw [ctLen]; omega
                rw [e2] at hvn
                obtain ⟨gn, hgn, cn0⟩ := own_at ki6.1 hvn (i := 0) (by rw [e2]; omega)
                obtain ⟨gn2, hgn2, cn2⟩ := own_at ki6.1 hvn (i := 2) (by rw [e2]; omega)
                obtain ⟨gj, hgj, cj0⟩ := own_at oj hvj (i := 0) (by omega)
                obtain ⟨gj2, hgj2, cj2⟩ := own_at oj hvj (i := 2) (by omega)
                rw [hgn] at hgn2
                rw [hgj] at hgj2
                obtain rfl : gn = gn2 := by injection hgn2 with e; injection e
                obtain rfl : gj = gj2 := by injection hgj2 with e; injection e
                subst hgv hgn hgj
                rw [e3] at cn0
                rw [e4] at cn2
                rw [hvj] at cov
                have HN1 : Hid (IsN w6 (.slice (some ⟨gn, 0, none⟩) (t.cont (n : Int)).length cn) (t'.cont (n : Int))) := by
                  rw [← hvn]
                  exact IsN.of_own ki6.1 (by rw [e2, ctLen]; have := HRM.out.shape15 (HAS.out n hm1 hlt); omega)
                have HN2 : Hid (IsN w6 (.slice (some ⟨gj, 0, none⟩) (t.cont (n : Int)).length cj) (t.cont (n : Int))) := by
                  rw [← hvj]
                  exact IsN.of_own oj (by rw [ctLen]; have := HRM.out.shape15 (HAS.out n hm1 hlt); omega)
                rw [hvn]
                have HCOV := hid cov
                obtain ⟨ll, hll⟩ : ∃ ll, ll = (t.cont (n : Int)).length := ⟨_, rfl⟩
                rw [← hll] at h3 cov HN1 HN2 HCOV ⊢
                have hl0 : (0 : Int) < (ll : Int) := by omega
                have hl2 : (2 : Int) < (ll : Int) := by omega
                have hsub : (n : Int) - 1 = (j : Int) := by omega
                have hjl : (j : Int) < (nn : Int) := by omega
                have hwj : wrap64 ((n : Int) - 1) = (j : Int) := by
                  rw [hsub]
                  exact IntWalk.wrap64_in _ ⟨by omega, by omega⟩
                clear ki6 k6 hvn hvj oj D6 hj hjn hgn2 hgj2 hll e1 e2 e3 e4 e5
                generalize (t.cont (n : Int)).getD 0 0 = r0 at cn0 cj0
                generalize (t.cont (n : Int)).getD 2 0 = r2 at cn2 cj2
                go_wp2_with (fail)
                go_quiet (fail)
                have HK7 := hid (HK6.out.drewN nq)
                have cov7 := cell_kp (Kp.draw w6 nq) HCOV.out
                have HN17 := hid (HN1.out.kp0 (Kp.draw w6 nq))
                have HN27 := hid (HN2.out.kp0 (Kp.draw w6 nq))
                clear cn0 cn2 cj0 cj2 cov HCOV HN1 HN2
                generalize w6.drewN nq = w7 at HK7 cov7 HN17 HN27 ⊢
                go_wp2_with (fail)
                refine (m_ints HN17.out HN27.out).mono ?_
                rintro e w8 ⟨rfl, k8⟩
                have HK8 := hid (HK7.out.chain k8)
                have f0 := (HB5.out.kp HK8.out (by simp)).cell 0
                clear k8 cov7
                rcases hq : eqL (t'.cont (n : Int)) (t.cont (n : Int)) with _ | _
                · have hne : t'.cont (n : Int) ≠ t.cont (n : Int) := of_decide_eq_false hq
                  clear hq
                  by_cases hk1 : s.k = 1
                  · have q1 : (s.k != 1) = false := by simpa using hk1
                    have HK1 := hid hk1
                    clear hk1 hne
                    go_wp2_with (fail)
                    go_roundw
                    case rel => exact ⟨c + 1, n + 1, by go_num, by omega, by omega, by go_num, by omega, fun h => absurd HK1.out h, HK8.out⟩
                    case measure => simp [intOf]; omega
                  · have q1 : (s.k != 1) = true := by simpa using hk1
                    have hof : (n : Int) = s.a := by
                      rcases Decidable.em ((n : Int) = s.a) with h | h
                      · exact h
                      · exact absurd (HE5.out hk1 h) hne
                    have q9 : ((n : Int) != s.a) = false := by simpa using hof
                    obtain ⟨_, hc0⟩ := HCS.out hk1
                    have hc0 := hc0 (by omega)
                    have HOF2 := hid hof
                    have HC0 := hid hc0
                    clear hk1 hne hof hc0
                    go_wp2_with (fail)
                    go_roundw
                    case rel => exact ⟨c + 1, n + 1, by go_num, by omega, by omega, by go_num, by omega, fun _ => ⟨by have := HC0.out; omega, fun h => by have := HOF2.out; omega⟩, HK8.out⟩
                    case measure => simp [intOf]; omega
                · clear hq
                  go_wp2_with (fail)
                  go_roundw
                  case rel => exact ⟨c, n + 1, rfl, by omega, by omega, by go_num, by omega, fun h => ⟨(HCS.out h).1, fun h2 => (HCS.out h).2 (by omega)⟩, HK8.out⟩
                  case measure => simp [intOf]; omega
              · obtain rfl : n = nn + 1 := by omega
                clear hlt
                obtain ⟨nb, hnb⟩ : ∃ nb, nb = t'.ob.length := ⟨_, rfl⟩
                have hb1 : (nn : Int) ≤ (nb : Int) := by have := HNB2.out; omega
                have hb2 : (nb : Int) ≤ (nn : Int) + 1 := by have := HNB2.out; omega
                have HNB3 := hid hnb
                clear hnb
                go_wp2_with (fail)
                refine (l_births (HV5.out.kp0 HKP.out).1).mono ?_
                rintro e w6 ⟨rfl, k6⟩
                rw [← HNB3.out]
                have HK6 := hid (HKP.out.chain k6)
                clear k6
                go_wp2_with (fail)
                refine (l_births (HV5.out.kp0 HK6.out).1).mono ?_
                rintro e w7 ⟨rfl, k7⟩
                rw [← HNB3.out]
                have HK7 := hid (HK6.out.chain k7)
                have f0 := (HB5.out.kp HK7.out (by simp)).cell 0
                clear k7
                by_cases hk1 : s.k = 1
                · have q1 : (s.k == 1) = true := by simpa using hk1
                  clear hk1
                  go_wp2_with (fail)
                  refine (m_alive (HLZ1.out.kp0 (HD.out.k.chain HK7.out))).mono ?_
                  rintro e wz ⟨rfl, kz⟩
                  have HKZ := hid (((HKB.out.chain HD.out.k).chain HK7.out).chain kz)
                  clear kz
                  go_wp2
                  go_ret
                  exact ⟨rfl, HKZ.out⟩
                · have q1 : (s.k == 1) = false := by simpa using hk1
                  have hc1 : (c : Int) ≤ 1 := by have := (HCS.out hk1).1; omega
                  clear hk1
                  go_wp2_with (fail)
                  refine (m_alive (HLZ1.out.kp0 (HD.out.k.chain HK7.out))).mono ?_
                  rintro e wz ⟨rfl, kz⟩
                  have HKZ := hid (((HKB.out.chain HD.out.k).chain HK7.out).chain kz)
                  clear kz
                  go_wp2
                  go_ret
                  exact ⟨rfl, HKZ.out⟩
          · have q4 : (s.k == 4) = false := by simpa using hk4
            have HOF : Hid (t.ofI s = 0) := by
              show _ = _
              unfold MT.ofI
              rw [if_neg (fun h => hk0 h.1), if_neg hk4]
            clear hk0 hk4
            go_wp2_with (fail)
            refine (l_do (offB_live HG.out.r) HOB.out s HSO.out).mono ?_
            rintro e w5 ⟨rfl, v5, s5⟩
            have HD := hid (HG.out.stay s5)
            have HV5 := hid v5
            have HB5 := hid (HBX.out.kp HD.out.k (by simp))
            have HDC : Hid (∀ k : Nat, 1 ≤ k → k ≤ nn → ((t.dos s).1.has (k : Int) = true ∧ ((t.dos s).1.cont (k : Int)).length = (t.cont (k : Int)).length ∧ ((t.dos s).1.cont (k : Int)).getD 0 0 = (t.cont (k : Int)).getD 0 0 ∧ ((t.dos s).1.cont (k : Int)).getD 2 0 = (t.cont (k : Int)).getD 2 0 ∧ (s.k ≠ 1 → (k : Int) ≠ (0 : Int) → (t.dos s).1.cont (k : Int) = t.cont (k : Int)))) := fun k h1 h2 => by
              have := HOK.out.dos_cont (s := s) (HAS.out k h1 h2)
              rw [HOF.out] at this
              exact this
            have HNB2 : Hid (nn ≤ (t.dos s).1.ob.length ∧ (t.dos s).1.ob.length ≤ nn + 1) := by
              have h1 := t.dos_ob s
              obtain ⟨l, h2⟩ := t.dos_pre s
              rw [HNN.out] at h1
              refine ⟨?_, h1⟩
              rw [h2, List.length_append, HNN.out]
              omega
            clear v5 s5 d0 d1 d2 d3 d4 d5 d6 d7 d8 d9 d10 d11 d12 HG HBW
            generalize (t.dos s).1 = t' at HV5 HDC HNB2
            go_wp2_with (fail)
            go_loopw [11, 13] (fun cc cn wr => ∃ (c n : Nat), cc = .int .i64 (c : Int) ∧ 1 ≤ n ∧ n ≤ nn + 1 ∧ cn = .int .i64 (n : Int) ∧ c ≤ n ∧ (s.k ≠ 1 → c ≤ 1 ∧ ((n : Int) ≤ (0 : Int) → c = 0)) ∧ Kp [] w5 wr) (fun _ cn _ => nn + 1 - (intOf cn).toNat)
            case atStart => exact ⟨0, 1, rfl, by omega, by omega, rfl, by omega, fun _ => ⟨by omega, fun _ => rfl⟩, Kp.refl _ _⟩
            case round =>
              obtain ⟨c, n, rfl, hm1, hm2, rfl, hcn, hcs, hkp⟩ := hrel
              have HCS := hid hcs
              have HKP := hid hkp
              clear hcs hkp
              by_cases hlt : n ≤ nn
              · have hli : (n : Int) ≤ (nn : Int) := by omega
                obtain ⟨e1, e2, e3, e4, e5⟩ := HDC.out n hm1 hlt
                have HE5 := hid e5
                go_wp2_with (fail)
                refine (l_contents (HV5.out.kp0 HKP.out).1 e1).mono ?_
                rintro e w6 ⟨vn, M, rfl, ki6, _, _, _, k6⟩
                obtain ⟨An, cn, hvn⟩ := own_slicez ki6.1
                obtain ⟨j, hj⟩ : ∃ j, n = j + 1 := ⟨n - 1, by omega⟩
                have hjn : (j : Int) + 1 = (n : Int) := by omega
                have HK6 := hid (HKP.out.chain k6)
                have D6 := HD.out.kp0 HK6.out
                obtain ⟨gv, hgv, cov⟩ := own_atv D6.o HLV.out (i := j) (by rw [HVN.out]; omega) rfl
                have oj := D6.e j (by rw [HVN.out]; omega)
                rw [hjn] at oj
                obtain ⟨Aj, cj, hvj⟩ := own_slicez oj
                have h3 : 3 ≤ (t.cont (n : Int)).length := by rw [ctLen]; omega
                rw [e2] at hvn
                obtain ⟨gn, hgn, cn0⟩ := own_at ki6.1 hvn (i := 0) (by rw [e2]; omega)
                obtain ⟨gn2, hgn2, cn2⟩ := own_at ki6.1 hvn (i := 2) (by rw [e2]; omega)
                obtain ⟨gj, hgj, cj0⟩ := own_at oj hvj (i := 0) (by omega)
                obtain ⟨gj2, hgj2, cj2⟩ := own_at oj hvj (i := 2) (by omega)
                rw [hgn] at hgn2
                rw [hgj] at hgj2
                obtain rfl : gn = gn2 := by injection hgn2 with e; injection e
                obtain rfl : gj = gj2 := by injection hgj2 with e; injection e
                subst hgv hgn hgj
                rw [e3] at cn0
                rw [e4] at cn2
                rw [hvj] at cov
                have HN1 : Hid (IsN w6 (.slice (some ⟨gn, 0, none⟩) (t.cont (n : Int)).length cn) (t'.cont (n : Int))) := by
                  rw [← hvn]
                  exact IsN.of_own ki6.1 (by rw [e2, ctLen]; have := HRM.out.shape15 (HAS.out n hm1 hlt); omega)
                have HN2 : Hid (IsN w6 (.slice (some ⟨gj, 0, none⟩) (t.cont (n : Int)).length cj) (t.cont (n : Int))) := by
                  rw [← hvj]
                  exact IsN.of_own oj (by rw [ctLen]; have := HRM.out.shape15 (HAS.out n hm1 hlt); omega)
                rw [hvn]
                have HCOV := hid cov
                obtain ⟨ll, hll⟩ : ∃ ll, ll = (t.cont (n : Int)).length := ⟨_, rfl⟩
                rw [← hll] at h3 cov HN1 HN2 HCOV ⊢
                have hl0 : (0 : Int) < (ll : Int) := by omega
                have hl2 : (2 : Int) < (ll : Int) := by omega
                have hsub : (n : Int) - 1 = (j : Int) := by omega
                have hjl : (j : Int) < (nn : Int) := by omega
                have hwj : wrap64 ((n : Int) - 1) = (j : Int) := by
                  rw [hsub]
                  exact IntWalk.wrap64_in _ ⟨by omega, by omega⟩
                clear ki6 k6 hvn hvj oj D6 hj hjn hgn2 hgj2 hll e1 e2 e3 e4 e5
                generalize (t.cont (n : Int)).getD 0 0 = r0 at cn0 cj0
                generalize (t.cont (n : Int)).getD 2 0 = r2 at cn2 cj2
                go_wp2_with (fail)
                go_quiet (fail)
                have HK7 := hid (HK6.out.drewN nq)
                have cov7 := cell_kp (Kp.draw w6 nq) HCOV.out
                have HN17 := hid (HN1.out.kp0 (Kp.draw w6 nq))
                have HN27 := hid (HN2.out.kp0 (Kp.draw w6 nq))
                clear cn0 cn2 cj0 cj2 cov HCOV HN1 HN2
                generalize w6.drewN nq = w7 at HK7 cov7 HN17 HN27 ⊢
                go_wp2_with (fail)
                refine (m_ints HN17.out HN27.out).mono ?_
                rintro e w8 ⟨rfl, k8⟩
                have HK8 := hid (HK7.out.chain k8)
                have f0 := (HB5.out.kp HK8.out (by simp)).cell 0
                clear k8 cov7
                rcases hq : eqL (t'.cont (n : Int)) (t.cont (n : Int)) with _ | _
                · have hne : t'.cont (n : Int) ≠ t.cont (n : Int) := of_decide_eq_false hq
                  clear hq
                  by_cases hk1 : s.k = 1
                  · have q1 : (s.k != 1) = false := by simpa using hk1
                    have HK1 := hid hk1
                    clear hk1 hne
                    go_wp2_with (fail)
                    go_roundw
                    case rel => exact ⟨c + 1, n + 1, by go_num, by omega, by omega, by go_num, by omega, fun h => absurd HK1.out h, HK8.out⟩
                    case measure => simp [intOf]; omega
                  · have q1 : (s.k != 1) = true := by simpa using hk1
                    have hof : (n : Int) = (0 : Int) := by
                      rcases Decidable.em ((n : Int) = (0 : Int)) with h | h
                      · exact h
                      · exact absurd (HE5.out hk1 h) hne
                    have q9 : ((n : Int) != (0 : Int)) = false := by simpa using hof
                    obtain ⟨_, hc0⟩ := HCS.out hk1
                    have hc0 := hc0 (by omega)
                    have HOF2 := hid hof
                    have HC0 := hid hc0
                    clear hk1 hne hof hc0
                    go_wp2_with (fail)
                    go_roundw
                    case rel => exact ⟨c + 1, n + 1, by go_num, by omega, by omega, by go_num, by omega, fun _ => ⟨by have := HC0.out; omega, fun h => by have := HOF2.out; omega⟩, HK8.out⟩
                    case measure => simp [intOf]; omega
                · clear hq
                  go_wp2_with (fail)
                  go_roundw
                  case rel => exact ⟨c, n + 1, rfl, by omega, by omega, by go_num, by omega, fun h => ⟨(HCS.out h).1, fun h2 => (HCS.out h).2 (by omega)⟩, HK8.out⟩
                  case measure => simp [intOf]; omega
              · obtain rfl : n = nn + 1 := by omega
                clear hlt
                obtain ⟨nb, hnb⟩ : ∃ nb, nb = t'.ob.length := ⟨_, rfl⟩
                have hb1 : (nn : Int) ≤ (nb : Int) := by have := HNB2.out; omega
                have hb2 : (nb : Int) ≤ (nn : Int) + 1 := by have := HNB2.out; omega
                have HNB3 := hid hnb
                clear hnb
                go_wp2_with (fail)
                refine (l_births (HV5.out.kp0 HKP.out).1).mono ?_
                rintro e w6 ⟨rfl, k6⟩
                rw [← HNB3.out]
                have HK6 := hid (HKP.out.chain k6)
                clear k6
                go_wp2_with (fail)
                refine (l_births (HV5.out.kp0 HK6.out).1).mono ?_
                rintro e w7 ⟨rfl, k7⟩
                rw [← HNB3.out]
                have HK7 := hid (HK6.out.chain k7)
                have f0 := (HB5.out.kp HK7.out (by simp)).cell 0
                clear k7
                by_cases hk1 : s.k = 1
                · have q1 : (s.k == 1) = true := by simpa using hk1
                  clear hk1
                  go_wp2_with (fail)
                  refine (m_alive (HLZ1.out.kp0 (HD.out.k.chain HK7.out))).mono ?_
                  rintro e wz ⟨rfl, kz⟩
                  have HKZ := hid (((HKB.out.chain HD.out.k).chain HK7.out).chain kz)
                  clear kz
                  go_wp2
                  go_ret
                  exact ⟨rfl, HKZ.out⟩
                · have q1 : (s.k == 1) = false := by simpa using hk1
                  have hc1 : (c : Int) ≤ 1 := by have := (HCS.out hk1).1; omega
                  clear hk1
                  go_wp2_with (fail)
                  refine (m_alive (HLZ1.out.kp0 (HD.out.k.chain HK7.out))).mono ?_
                  rintro e wz ⟨rfl, kz⟩
                  have HKZ := hid (((HKB.out.chain HD.out.k).chain HK7.out).chain kz)
                  clear kz
                  go_wp2
                  go_ret
                  exact ⟨rfl, HKZ.out⟩
end
end Go.Proofs.YtbiompmklijgoaaDoor
