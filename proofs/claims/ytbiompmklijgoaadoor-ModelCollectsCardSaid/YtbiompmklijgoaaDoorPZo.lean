/-
  ModelCollects' walk. Conditions: those that stand in each theorem.
-/
import Derived.Test.YtbiompmklijgoaaDoorPZl
import Derived.Test.YtbiompmklijgoaaDoorPZn
namespace Go.Proofs.YtbiompmklijgoaaDoor
set_option linter.unusedVariables false
set_option linter.unusedSimpArgs false
open Go.RowKit Go.Deep Go.Maps

theorem eqL_ne {a b : List Int} (h : a ≠ b) : eqL a b = false := decide_eq_false h
section
variable {w w' W V : World} {g : Nat} {t t' : MT} {L : List Nat}
theorem kept_in {t : MT} (ok : t.Ok) : ∀ z ∈ t.kept, 0 ≤ z ∧ z ≤ (t.ob.length : Int) := fun z hz => by
  have := ((ok.kept_mem z).1 hz).pos ok
  omega
theorem kept_len {t : MT} (ok : t.Ok) : t.kept.length ≤ 1000000000 := by
  have := trues_len t.kb (t.ob.length + 1)
  have := ok.small.1
  unfold MT.kept
  omega
/-- What Collect leaves of a kept object, as the law asks. -/
structure ColF (t t' : MT) (z : Int) : Prop where
  has : t'.has z = true
  kind : (t'.obj z).k = 1 ∨ (t'.obj z).k = 2 → 1 ≤ (t'.obj z).r ∧ ((t'.obj z).k = 2 → 2 ≤ (t'.obj z).r) ∧ (t'.rf z 0 ≠ 0 → ∃ k : Nat, t'.rf z 0 = (k : Int) ∧ k < t.ob.length + 1 ∧ (marks (t.ob.length + 1) t.kept).getD k false = true) ∧ ((t'.obj z).k = 2 → t'.rf z 0 = 0 → t'.rf z 1 = 0)
theorem MT.Ok.colF {t : MT} (ok : t.Ok) {z : Int} (hz : z ∈ t.kept) : ColF t t.collect.1 z := by
  have C := ok.collects
  have hK := (ok.kept_mem z).1 hz
  refine ⟨by rw [C.like.has]; exact hK.has ok, fun hk => ?_⟩
  rw [C.like.obj] at hk ⊢
  obtain ⟨a1, a2⟩ := ok.col_clean hK hk
  have hr : looseN (t.obj z).k ≤ (t.obj z).r := by
    obtain ⟨a, e, ha, hoa⟩ := MT.has_nat (hK.has ok)
    have := of_decide_eq_true (ok.sh a ha)
    rw [hoa] at hk ⊢
    rcases hk with hq | hq
    · rw [hq]; exact (show 1 ≤ _ by omega)
    · rw [hq]; exact (show 2 ≤ _ by omega)
  refine ⟨?_, fun hq => by rw [hq] at hr; exact hr, fun h0 => ?_, a2⟩
  · rcases hk with hq | hq
    · rw [hq] at hr; exact hr
    · rw [hq] at hr; exact Nat.le_trans (by decide : 1 ≤ 2) hr
  · have hk2 := a1 h0
    have hp := hk2.pos ok
    obtain ⟨k, e⟩ : ∃ k : Nat, t.collect.1.rf z 0 = (k : Int) := ⟨(t.collect.1.rf z 0).toNat, by omega⟩
    refine ⟨k, e, by omega, marks_at (by omega) ?_⟩
    rw [← e]
    exact (ok.kept_mem _).2 hk2
set_option maxRecDepth 100000 in
set_option maxHeartbeats 1000000 in
theorem model_collects (hlz : LZ w) {mu : Int} {A : Option Addr} {len cap : Nat} {X : Nat → SP} (HX : StepsR w A len X) :
    Calls Tryd.prog 8 #[.int .i64 mu, .slice A len cap] w (TrueP w) := by
  have HLZ0 := hid hlz
  have HST1 := hid HX
  clear hlz HX
  by_cases hbad : ¬ (1 ≤ mu ∧ mu ≤ 4) ∨ 120 < len
  · have HBAD := hid hbad
    clear hbad
    go_enter Tryd.func8, Tryd.ntmps8
    go_wp2_with (fail)
    refine (m_made_no HLZ0.out mu HBAD.out).mono ?_
    rintro e w2 ⟨rfl, k2⟩
    have HK2 := hid k2
    clear k2
    go_wp2_with (fail)
    refine (m_alive (HLZ0.out.kp0 HK2.out)).mono ?_
    rintro e w3 ⟨rfl, k3⟩
    have HK3 := hid (HK2.out.chain k3)
    clear k3
    go_wp2
    go_ret
    exact ⟨rfl, HK3.out⟩
  · obtain ⟨n, rfl⟩ : ∃ n : Nat, mu = (n : Int) := ⟨mu.toNat, by omega⟩
    have hn1 : 1 ≤ n := by omega
    have hn4 : n ≤ 4 := by omega
    have hl : len ≤ 120 := by omega
    clear hbad
    go_enter Tryd.func8, Tryd.ntmps8
    go_wp2_with (fail)
    refine (m_made_ok HLZ0.out n hn1 hn4 HST1.out hl).mono ?_
    rintro e w2 ⟨g, rfl, v2, k2⟩
    have HV2 := hid v2
    have HK2 := hid k2
    have HL0 : Hid (∀ x, x < w.heap.size → x ∈ List.range w.heap.size) := fun x hx => List.mem_range.2 hx
    clear v2 k2
    generalize List.range w.heap.size = L0 at HV2 HL0
    generalize madeT n X len = t at HV2
    have HOK := hid HV2.out.ok
    go_wp2_with (fail)
    refine (l_state HV2.out).mono ?_
    rintro e w3 ⟨vb, M3, rfl, ki3, hsub3, v3, s3, k3⟩
    have HVB := hid ki3
    have HV3 := hid v3
    have HK3 := hid (HK2.out.chain k3)
    have HSUB3 := hid hsub3
    have HSLEN := hid v3.state_len
    clear ki3 v3 s3 k3 hsub3
    go_wp2_with (fail)
    refine (l_kept HV3.out).mono ?_
    rintro e w4 ⟨vs, M4, rfl, ki4, hsub4, v4, s4, k4⟩
    have HVB4 := hid ((HVB.out.stay s4).sub hsub4)
    have HVS4 := hid ki4
    have HV4 := hid v4
    have HK4 := hid (HK3.out.chain k4)
    have HSUB4 : Hid (∀ x ∈ L0, x ∈ M4) := fun x hx => hsub4 x (HSUB3.out x hx)
    clear ki4 v4 s4 k4 hsub4
    go_wp2_with (fail)
    refine (l_Collect HV4.out).mono ?_
    rintro e w5 ⟨rfl, v5, s5⟩
    have HVB5 := hid (HVB4.out.stay s5)
    have HVS5 := hid (HVS4.out.stay s5)
    have HV5 := hid v5
    have HK5 : Hid (Kp [] w w5) := (s5.sub HSUB4.out).kp0 HK4.out HL0.out
    have HZERO := hid HOK.out.col_zero
    have HAGAIN := hid HOK.out.col_again
    have HKEPT := hid HOK.out.col_kept
    have HCOL := hid (HOK.out.collects)
    have HCF : Hid (∀ z ∈ t.kept, ColF t t.collect.1 z) := fun z hz => HOK.out.colF hz
    have HLE := hid HOK.out.col_le
    have HOBE : Hid (t.collect.1.ob.length = t.ob.length) := by show _ = _; rw [HCOL.out.like.ob]
    clear v5 s5
    have HSAME : Hid (t.collect.1.collect.1.stateL = t.collect.1.stateL) := state_same HCOL.out.ok.collects.like (fun x hx i hi => HAGAIN.out.2 x (by rw [← HCOL.out.like.has]; exact hx) i (by rw [← HCOL.out.like.obj]; exact hi)) HCOL.out.ok.collects.dw
    have HCNT2 : Hid (t.collect.1.collect.2 = 0) := HAGAIN.out.1
    clear HAGAIN HCOL
    rcases hcol : t.collect with ⟨t', cnt⟩
    rw [hcol] at HV5 HZERO HKEPT HCF HLE HOBE HSAME HCNT2
    clear hcol
    go_wp2_with (fail)
    refine (l_state HV5.out).mono ?_
    rintro e w6 ⟨va, M6, rfl, ki6, hsub6, v6, s6, k6⟩
    have HVB6 := hid ((HVB5.out.stay s6).sub hsub6)
    have HVS6 := hid ((HVS5.out.stay s6).sub hsub6)
    have HVA6 := hid ki6
    have HV6 := hid v6
    have HK6 := hid (HK5.out.chain k6)
    have HALEN := hid v6.state_len
    have HSUB6 : Hid (∀ x ∈ L0, x ∈ M6) := fun x hx => hsub6 x (HSUB4.out x hx)
    clear ki6 v6 s6 k6 hsub6
    go_wp2_with (fail)
    refine (l_kept HV6.out).mono ?_
    rintro e w7 ⟨vk, M7, rfl, ki7, hsub7, v7, s7, k7⟩
    rw [HKEPT.out] at ki7
    have hi := m_ints (ki7.isN (kept_len HOK.out)) (((HVS6.out.stay s7).sub hsub7).isN (kept_len HOK.out))
    rw [eqL_same] at hi
    have HI := hid hi
    have HVB7 := hid ((HVB6.out.stay s7).sub hsub7)
    have HVS7 := hid ((HVS6.out.stay s7).sub hsub7)
    have HVA7 := hid ((HVA6.out.stay s7).sub hsub7)
    have HV7 := hid v7
    have HK7 := hid (HK6.out.chain k7)
    have HSUB7 : Hid (∀ x ∈ L0, x ∈ M7) := fun x hx => hsub7 x (HSUB6.out x hx)
    clear ki7 v7 s7 k7 hsub7 hi
    go_wp2_with (fail)
    refine HI.out.mono ?_
    rintro e w8 ⟨rfl, k8⟩
    obtain ⟨v8, s8⟩ := HV7.out.kp0 k8
    have HVB8 := hid (HVB7.out.stay s8)
    have HVS8 := hid (HVS7.out.stay s8)
    have HVA8 := hid (HVA7.out.stay s8)
    have HV8 := hid v8
    have HK8 := hid (HK7.out.chain k8)
    clear v8 s8 k8 HI HVB7 HVA7 HVS7
    have hi2 := m_ints (HVB8.out.isN HSLEN.out) (HVA8.out.isN HALEN.out)
    have HEQ : Hid (eqL t.stateL t'.stateL = (((cnt : Int)) == 0)) := by
      show _ = _
      by_cases h0 : cnt = 0
      · rw [← HZERO.out.1 h0, eqL_same, h0]
        rfl
      · rw [eqL_ne (fun h => h0 (HZERO.out.2 h.symm))]
        symm
        simpa using h0
    rw [HEQ.out] at hi2
    have HI2 := hid hi2
    obtain ⟨lk, hlk⟩ : ∃ k, k = t.kept.length := ⟨_, rfl⟩
    have HLK := hid hlk
    obtain ⟨Ak, ck, rfl, hk1, hkat⟩ := HVS8.out.isN (kept_len HOK.out)
    have HKAT := hid hkat
    have hle := HLE.out
    rw [← hlk] at hk1 hle ⊢
    have hlt0 : decide ((cnt : Int) < 0) = false := decide_eq_false (by omega)
    have hgt0 : decide ((lk : Int) < (cnt : Int)) = false := decide_eq_false (by
      have : cnt ≤ lk := hle
      omega)
    have hgt1 : decide (lk < cnt) = false := decide_eq_false (by
      have : cnt ≤ lk := hle
      omega)
    have hgt2 : cnt ≤ lk := hle
    clear hi2 hlk hkat hle
    generalize hcb : ((cnt : Int) == 0) = cb at HI2
    have hcbb : (cb != cb) = false := by cases cb <;> rfl
    have HCB := hid hcb
    go_wp2_with (fail)
    refine HI2.out.mono ?_
    rintro e w9 ⟨rfl, k9⟩
    obtain ⟨v9, s9⟩ := HV8.out.kp0 k9
    have HVA9 := hid (HVA8.out.stay s9)
    have HVS9 := hid (HVS8.out.stay s9)
    have HV9 := hid v9
    have HK9 := hid (HK8.out.chain k9)
    have HK98 := hid k9
    clear v9 s9 k9 HI2
    go_wp2_with (fail)
    have hkm := l_marks HV9.out (HVS9.out.isN (kept_len HOK.out)) (fun z hz => by have := kept_in HOK.out z hz; have := HOBE.out; omega)
    rw [← HLK.out] at hkm
    have HKM := hid hkm
    clear hkm
    refine HKM.out.mono ?_
    rintro e w9b ⟨gm, rfl, bm, gem, k9b⟩
    rw [HOBE.out] at bm ⊢
    obtain ⟨v9b, s9b⟩ := HV9.out.kp0 k9b
    have HVA9b := hid (HVA9.out.stay s9b)
    have HV9b := hid v9b
    have HK9b := hid (HK9.out.chain k9b)
    have HK98b := hid (HK98.out.chain k9b)
    have HMK := hid bm
    clear v9b s9b k9b bm gem HVA9 HK9 HK98 HV9 HVS9
    go_wp2_with (fail)
    go_loopw [11] (fun ct wr => ∃ i : Nat, i ≤ lk ∧ ct = .int .i64 (i : Int) ∧ Kp [] w9b wr) (fun ct _ => lk - (intOf ct).toNat)
    case atStart => exact ⟨0, by omega, rfl, Kp.refl _ _⟩
    case round =>
      obtain ⟨i, hi, rfl, hkr9⟩ := hrel
      by_cases hlt : i < lk
      · obtain ⟨hhas, hkind⟩ := HCF.out _ (getD_mem (by rw [← HLK.out]; exact hlt) : t.kept.getD i 0 ∈ t.kept)
        obtain ⟨gz, oz, rfl, cz⟩ := HKAT.out i (by rw [← HLK.out]; exact hlt)
        have czr := cell_kp (hkr9 : Kp [] w9b wr) (cell_kp HK98b.out cz)
        obtain ⟨z, hz⟩ : ∃ z, z = t.kept.getD i 0 := ⟨_, rfl⟩
        rw [← hz] at hhas hkind czr
        have HHAS := hid hhas
        have HKIND := hid hkind
        have HKR := hid hkr9
        have hli : (i : Int) < (lk : Int) := by omega
        have HSH : Hid (t'.shV z = (t'.obj z).shv ∧ t'.chk z = 0) := by
          refine ⟨?_, by unfold MT.chk; rw [hhas]; rfl⟩
          unfold MT.shV
          rw [hhas]
          rfl
        obtain ⟨o, ho⟩ : ∃ o, o = t'.obj z := ⟨_, rfl⟩
        have HO := hid ho
        clear cz hz hhas hkind hkr9 ho
        go_wp2_with (fail)
        refine (l_Shape (HV9b.out.kp0 HKR.out).1 z).mono ?_
        rintro e w10 ⟨rfl, k10⟩
        rw [HSH.out.1, HSH.out.2, ← HO.out]
        unfold OB.shv
        have kB := Kp.new w10 (.cells #[.int .i64 (o.r : Int), .int .i64 (o.d : Int), .int .i64 (o.k : Int)] 33)
        have bB := Blk.new w10 33 #[.int .i64 (o.r : Int), .int .i64 (o.d : Int), .int .i64 (o.k : Int)]
        have HKB := hid ((HKR.out.chain k10).chain kB)
        have HBB := hid bB
        have czb := cell_kp (k10.chain kB) czr
        have cb2 := bB.cell 2
        clear k10 kB bB czr
        go_upto_region 15 with (fail)
        generalize w10.alloc (.cells #[.int .i64 (o.r : Int), .int .i64 (o.d : Int), .int .i64 (o.k : Int)] 33) = w11 at HKB HBB czb cb2 ⊢
        generalize w10.heap.size = gbx at HBB cb2 ⊢
        by_cases hk : o.k = 1
        · obtain ⟨hr1, hr2, hto, hv⟩ := HKIND.out (by rw [← HO.out]; exact .inl hk)
          have HR0 : Hid (t'.refV z 0 = t'.rf z 0 ∧ t'.refE z 0 = 0) := MT.refV_at HHAS.out (i := 0) (by omega)
          have q1 : ((o.k : Int) != 1) = false := by rw [hk]; rfl
          have q2 : ((o.k : Int) != 2) = true := by rw [hk]; rfl
          have q3 : ((o.k : Int) == 2) = false := by rw [hk]; rfl
          have HTO := hid hto
          clear hk hr1 hr2 hto hv
          go_wp2_with (fail)
          refine (l_Ref (HV9b.out.kp0 HKB.out).1 z 0).mono ?_
          rintro e w12 ⟨rfl, k12⟩
          rw [HR0.out.1, HR0.out.2]
          have HKC := hid (HKB.out.chain k12)
          have czc := cell_kp k12 czb
          have cb2c := (HBB.out.kp k12 (by simp)).cell 2
          have HBC := hid (HBB.out.kp k12 (by simp))
          clear k12 czb cb2
          by_cases h0 : t'.rf z 0 = 0
          · have z0 : (t'.rf z 0 != 0) = false := by rw [h0]; rfl
            have z1 : (t'.rf z 0 == 0) = true := by rw [h0]; rfl
            clear h0
            generalize t'.rf z 0 = tq at z0 z1 HTO HR0
            go_wp2_with (fail)
            go_roundw
            case rel => exact ⟨i + 1, by omega, by go_num, HKC.out⟩
            case measure => simp [intOf]; omega
          · have z0 : (t'.rf z 0 != 0) = true := by simpa using h0
            have z1 : (t'.rf z 0 == 0) = false := by simpa using h0
            obtain ⟨tn, hte, htn, htm⟩ := HTO.out h0
            rw [hte] at z0 z1 HR0 ⊢
            have ctk : w12.cell? ⟨gm, tn, none⟩ = some (.bool true) := by
              rw [← htm]
              exact ((HMK.out.kp HKC.out (by simp)).cell tn).trans (bcells_get (by rw [marks_len]; exact htn))
            have htni : (tn : Int) < (t.ob.length : Int) + 1 := by omega
            clear h0 hte htm HTO
            go_wp2_with (fail)
            go_roundw
            case rel => exact ⟨i + 1, by omega, by go_num, HKC.out⟩
            case measure => simp [intOf]; omega
        · by_cases hk2 : o.k = 2
          · have hk : o.k = 2 := hk2
            clear hk2
            obtain ⟨hr1, hr2, hto, hv⟩ := HKIND.out (by rw [← HO.out]; exact .inr hk)
            have HR0 : Hid (t'.refV z 0 = t'.rf z 0 ∧ t'.refE z 0 = 0) := MT.refV_at HHAS.out (i := 0) (by omega)
            have HR1 : Hid (t'.refV z 1 = t'.rf z 1 ∧ t'.refE z 1 = 0) := MT.refV_at HHAS.out (i := 1) (by have := hr2 (by rw [← HO.out]; exact hk); omega)
            have HV0 : Hid (t'.rf z 0 = 0 → t'.rf z 1 = 0) := hv (by rw [← HO.out]; exact hk)
            have q1 : ((o.k : Int) != 1) = true := by rw [hk]; rfl
            have q2 : ((o.k : Int) != 2) = false := by rw [hk]; rfl
            have q3 : ((o.k : Int) == 2) = true := by rw [hk]; rfl
            have HTO := hid hto
            clear hk hr1 hr2 hto hv
            go_wp2_with (fail)
            refine (l_Ref (HV9b.out.kp0 HKB.out).1 z 0).mono ?_
            rintro e w12 ⟨rfl, k12⟩
            rw [HR0.out.1, HR0.out.2]
            have HKC := hid (HKB.out.chain k12)
            have czc := cell_kp k12 czb
            have cb2c := (HBB.out.kp k12 (by simp)).cell 2
            have HBC := hid (HBB.out.kp k12 (by simp))
            clear k12 czb cb2
            by_cases h0 : t'.rf z 0 = 0
            · have z0 : (t'.rf z 0 != 0) = false := by rw [h0]; rfl
              have z1 : (t'.rf z 0 == 0) = true := by rw [h0]; rfl
              have z2 : (t'.rf z 1 != 0) = false := by rw [HV0.out h0]; rfl
              clear h0
              generalize t'.rf z 0 = tq at z0 z1 HTO HR0 HV0
              go_wp2_with (fail)
              refine (l_Ref (HV9b.out.kp0 HKC.out).1 z 1).mono ?_
              rintro e w13 ⟨rfl, k13⟩
              rw [HR1.out.1, HR1.out.2]
              have HKD := hid (HKC.out.chain k13)
              clear k13 czc cb2c
              generalize t'.rf z 1 = vv at z2 HR1 HV0
              go_wp2_with (fail)
              go_roundw
              case rel => exact ⟨i + 1, by omega, by go_num, HKD.out⟩
              case measure => simp [intOf]; omega
            · have z0 : (t'.rf z 0 != 0) = true := by simpa using h0
              have z1 : (t'.rf z 0 == 0) = false := by simpa using h0
              obtain ⟨tn, hte, htn, htm⟩ := HTO.out h0
              rw [hte] at z0 z1 HR0 ⊢
              have ctk : w12.cell? ⟨gm, tn, none⟩ = some (.bool true) := by
                rw [← htm]
                exact ((HMK.out.kp HKC.out (by simp)).cell tn).trans (bcells_get (by rw [marks_len]; exact htn))
              have htni : (tn : Int) < (t.ob.length : Int) + 1 := by omega
              clear h0 hte htm HTO
              go_wp2_with (fail)
              refine (l_Ref (HV9b.out.kp0 HKC.out).1 z 1).mono ?_
              rintro e w13 ⟨rfl, k13⟩
              rw [HR1.out.1, HR1.out.2]
              have HKD := hid (HKC.out.chain k13)
              clear k13 czc cb2c ctk
              generalize t'.rf z 1 = vv at HR1 HV0
              go_wp2_with (fail)
              go_roundw
              case rel => exact ⟨i + 1, by omega, by go_num, HKD.out⟩
              case measure => simp [intOf]; omega
          · have q1 : ((o.k : Int) != 1) = true := by simp; omega
            have q2 : ((o.k : Int) != 2) = true := by simp; omega
            clear hk hk2
            go_wp2_with (fail)
            go_roundw
            case rel => exact ⟨i + 1, by omega, by go_num, HKB.out⟩
            case measure => simp [intOf]; omega
      · obtain rfl : i = lk := by omega
        have HKE := hid (HK9b.out.chain hkr9)
        obtain ⟨v10, s10⟩ := HV9b.out.kp0 hkr9
        have HV10 := hid v10
        have HVA10 := hid (HVA9b.out.stay s10)
        clear hkr9 v10 s10 hlt hcb hlt0 hgt0 hcbb hgt1 hgt2
        go_wp2_with (fail)
        refine (l_Collect HV10.out).mono ?_
        rintro e w14 ⟨rfl, v14, s14⟩
        rw [HCNT2.out]
        have HV14 := hid v14
        have HVA14 := hid (HVA10.out.stay s14)
        have HK14 : Hid (Kp [] w w14) := (s14.sub HSUB7.out).kp0 HKE.out HL0.out
        clear v14 s14
        go_wp2_with (fail)
        refine (l_state HV14.out).mono ?_
        rintro e w15 ⟨vz, M15, rfl, ki15, hsub15, v15, s15, k15⟩
        rw [HSAME.out] at ki15
        have hi3 := m_ints (ki15.isN HALEN.out) ((HVA14.out.stay s15).isN HALEN.out)
        rw [eqL_same] at hi3
        have HI3 := hid hi3
        have HK15 := hid (HK14.out.chain k15)
        clear ki15 hsub15 v15 s15 k15 hi3
        go_wp2_with (fail)
        refine HI3.out.mono ?_
        rintro e w16 ⟨rfl, k16⟩
        have HK16 := hid (HK15.out.chain k16)
        clear k16
        go_wp2_with (fail)
        refine (m_alive (HLZ0.out.kp0 HK16.out)).mono ?_
        rintro e w17 ⟨rfl, k17⟩
        have HK17 := hid (HK16.out.chain k17)
        clear k17
        go_wp2
        go_ret
        exact ⟨rfl, HK17.out⟩
end
end Go.Proofs.YtbiompmklijgoaaDoor
