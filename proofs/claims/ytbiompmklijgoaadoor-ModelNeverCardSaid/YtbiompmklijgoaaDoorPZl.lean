/-
  The law's kept, over package model; ModelMore's walk. Conditions: those that stand in each theorem.
-/
import Derived.Test.YtbiompmklijgoaaDoorPZi
import Derived.Test.YtbiompmklijgoaaDoorPZk
namespace Go.Proofs.YtbiompmklijgoaaDoor
set_option linter.unusedVariables false
set_option linter.unusedSimpArgs false
open Go.RowKit Go.Deep Go.Maps

section
variable {w w' W V : World} {g : Nat} {t t' : MT} {L : List Nat}
def MarkP (W : World) (n : Nat) (zs : List Int) (e : Ending) (w' : World) : Prop := ∃ gk, e = .returned (.slice (some ⟨gk, 0, none⟩) (n + 1) (n + 1)) ∧ Blk w' gk 4 (bcells (marks (n + 1) zs)) ∧ W.heap.size ≤ gk ∧ Kp [] W w'
theorem l_births (h : Live W g t L) : Calls Tryd.prog 24 #[.pointer (some ⟨g, 0, none⟩)] W fun e w' => e = .returned (.int .i64 (t.ob.length : Int)) ∧ Kp [] W w' := by
  obtain ⟨b, rfl, R, n⟩ := h.mr
  exact m_births R
theorem l_Shape (h : Live W g t L) (x : Int) : Calls Tryd.prog 34 #[.pointer (some ⟨g, 0, none⟩), .int .i64 x] W fun e w' => e = .returned (.tuple #[t.shV x, .int .i64 (t.chk x)]) ∧ Kp [] W w' := by
  obtain ⟨b, rfl, R, n⟩ := h.mr
  exact m_Shape R x
theorem l_Ref (h : Live W g t L) (x i : Int) : Calls Tryd.prog 35 #[.pointer (some ⟨g, 0, none⟩), .int .i64 x, .int .i64 i] W fun e w' => e = .returned (.tuple #[.int .i64 (t.refV x i), .int .i64 (t.refE x i)]) ∧ Kp [] W w' := by
  obtain ⟨b, rfl, R, n⟩ := h.mr
  exact m_Ref R x i
set_option maxRecDepth 100000 in
set_option maxHeartbeats 1000000 in
theorem l_marks (h : Live W g t L) {v : Value} {zs : List Int} (hn : IsN W v zs) (hz : ∀ z ∈ zs, 0 ≤ z ∧ z ≤ (t.ob.length : Int)) :
    Calls Tryd.prog 31 #[.pointer (some ⟨g, 0, none⟩), v] W (MarkP W t.ob.length zs) := by
  obtain ⟨i0, hi0, hz0, hz1, hz2⟩ := info_parts infoBool
  obtain ⟨A, cap, rfl, hA1, hA⟩ := hn
  have hob := h.ok.small.1
  obtain ⟨n, hnn⟩ : ∃ n, n = t.ob.length := ⟨_, rfl⟩
  rw [← hnn] at hz hob
  have hmk : ∀ W : World, (Instr.makeSlice 62 (.int .i64 ((n : Int) + 1)) (.int .i64 ((n : Int) + 1))).run Tryd.prog W = .ok (.slice (some ⟨W.heap.size, 0, none⟩) (n + 1) (n + 1)) (W.alloc (.cells (madeCells #[.bool false] (n + 1)) 4)) := fun W => by
    have := run_make_rowN (P := Tryd.prog) 62 4 i0 _ Tryd.underlying62 hi0 hz0 .i64 .i64 (n + 1) (n + 1) (Nat.le_refl _) (by rw [hz2]; omega) (by omega) W
    rw [hz1, Nat.mul_one] at this
    exact this
  have hmade : madeCells #[.bool false] (n + 1) = bcells (marks (n + 1) (zs.take 0)) := by
    apply Array.toList_inj.1
    rw [toList_madeCells_one]
    simp [bcells, marks]
  have HA := hid hA
  have HZ := hid hz
  have HNN := hid hnn
  have HV := hid h
  have HMD := hid hmade
  clear h hA hz hmade hnn
  go_enter Tryd.func31, Tryd.ntmps31
  go_wp2_with (fail)
  refine (l_births HV.out).mono ?_
  rintro e w2 ⟨rfl, k2⟩
  rw [← HNN.out]
  have hb := Blk.new w2 4 (madeCells #[.bool false] (n + 1))
  have HB := hid hb
  have HK2 := hid (k2.chain (Kp.new w2 (.cells (madeCells #[.bool false] (n + 1)) 4)))
  have HGE : Hid (W.heap.size ≤ w2.heap.size) := k2.size
  clear hb k2
  go_upto_region 2 with (fail)
  rw [HMD.out] at HB HK2 ⊢
  generalize w2.alloc (.cells (bcells (marks (n + 1) (zs.take 0))) 4) = w3 at HB HK2 ⊢
  generalize w2.heap.size = gk at HB HGE ⊢
  clear hmk
  go_wp2
  go_loopw [6] (fun ct wr => ∃ i : Nat, i ≤ zs.length ∧ ct = .int .i64 (i : Int) ∧ Blk wr gk 4 (bcells (marks (n + 1) (zs.take i))) ∧ Kp [] W wr) (fun ct _ => zs.length - (intOf ct).toNat)
  case atStart => exact ⟨0, by omega, rfl, HB.out, HK2.out⟩
  case round =>
    obtain ⟨i, hi, rfl, hbk, hkp⟩ := hrel
    have HBK := hid hbk
    have HKP := hid hkp
    clear hbk hkp
    by_cases hlt : i < zs.length
    · have hzi := HZ.out _ (getD_mem hlt)
      have HSN := hid (marks_snoc (n + 1) zs i hlt)
      obtain ⟨ga, oa, rfl, ca⟩ := HA.out i hlt
      have ca2 := cell_kp HKP.out ca
      generalize zs.getD i 0 = z at hzi HSN ca2 ca
      obtain ⟨zn, rfl⟩ : ∃ k : Nat, z = (k : Int) := ⟨z.toNat, by omega⟩
      have hzl : zn < n + 1 := by omega
      have hzi2 : (zn : Int) < (n : Int) + 1 := by omega
      have hml := marks_len (n + 1) (zs.take i)
      have ck : ∃ u, wr.cell? ⟨gk, zn, none⟩ = some u := ⟨_, (HBK.out.cell zn).trans (bcells_get (by rw [hml]; exact hzl))⟩
      obtain ⟨u, ck⟩ := ck
      have cf := HBK.out.frozen zn
      have hli : (i : Int) < (zs.length : Int) := by omega
      clear hml ca
      go_wp2
      go_roundw
      case rel =>
        have hs := HBK.out.set_ zn (.bool true)
        rw [bcells_set] at hs
        refine ⟨i + 1, by omega, by go_num, ?_, HKP.out.trans (Kp.cell wr ⟨gk, zn, none⟩ _) (by simp) (fun x hx => .inr (by simp at hx; have := HGE.out; omega))⟩
        rw [HSN.out, Int.toNat_natCast]
        exact hs
      case measure => simp [intOf]; omega
    · obtain rfl : i = zs.length := by omega
      have HF : Hid (MarkP W n zs (.returned (.slice (some ⟨gk, 0, none⟩) (n + 1) (n + 1))) wr) := by
        have hb := HBK.out
        rw [List.take_length] at hb
        exact ⟨gk, rfl, hb, HGE.out, HKP.out⟩
      go_wp2
      go_ret
      rw [← HNN.out]
      exact HF.out
theorem IsN.at_ {v : Value} {zs : List Int} (h : IsN W v zs) : ∃ A c, v = .slice A zs.length c := by
  obtain ⟨A, c, e, _⟩ := h
  exact ⟨A, c, e⟩
/-- Where ModelMore has come to, once it has changed a reference or none. -/
def MoreR (w : World) (L0 : List Nat) (g : Nat) (t : MT) (vo : Value) (W : World) : Prop := ∃ (t1 : MT) (M : List Nat), Live W g t1 M ∧ KI vo t.kept M W ∧ Kp [] w W ∧ (∀ x ∈ L0, x ∈ M) ∧ (∀ x, t.K x → t1.K x) ∧ t1.ob.length = t.ob.length
set_option maxRecDepth 100000 in
set_option maxHeartbeats 1000000 in
theorem model_more (hlz : LZ w) {mu id of_ ri : Int} (hid64 : W64 id) {A : Option Addr} {len cap : Nat} {X : Nat → SP} (HX : StepsR w A len X) :
    Calls Tryd.prog 7 #[.int .i64 mu, .slice A len cap, .int .i64 id, .int .i64 of_, .int .i64 ri] w (TrueP w) := by
  have HLZ0 := hid hlz
  have HST1 := hid HX
  have H64 := hid hid64
  clear hlz HX hid64
  by_cases hbad : ¬ (1 ≤ mu ∧ mu ≤ 4) ∨ 120 < len
  · have HBAD := hid hbad
    clear hbad
    go_enter Tryd.func7, Tryd.ntmps7
    go_wp2_with (fail)
    refine (m_made_no HLZ0.out mu HBAD.out).mono ?_
    rintro e w2 ⟨rfl, k2⟩
    have HK2 := hid k2
    clear k2
    go_wp2_with (fail)
    refine (m_alive (HLZ0.out.kp0 HK2.out)).mono ?_
    rintro e w3 ⟨rfl, k3⟩
    have HK3 := hid (HK2.out.chain k3)
    clear k3
    go_wp2
    go_ret
    exact ⟨rfl, HK3.out⟩
  · obtain ⟨n, rfl⟩ : ∃ n : Nat, mu = (n : Int) := ⟨mu.toNat, by omega⟩
    have hn1 : 1 ≤ n := by omega
    have hn4 : n ≤ 4 := by omega
    have hl : len ≤ 120 := by omega
    clear hbad
    go_enter Tryd.func7, Tryd.ntmps7
    go_wp2_with (fail)
    refine (m_made_ok HLZ0.out n hn1 hn4 HST1.out hl).mono ?_
    rintro e w2 ⟨g, rfl, v2, k2⟩
    have HV2 := hid v2
    have HK2 := hid k2
    have HL0 : Hid (∀ x, x < w.heap.size → x ∈ List.range w.heap.size) := fun x hx => List.mem_range.2 hx
    clear v2 k2
    generalize List.range w.heap.size = L0 at HV2 HL0
    generalize madeT n X len = t at HV2
    go_wp2_with (fail)
    refine (l_kept HV2.out).mono ?_
    rintro e w3 ⟨vo, M, rfl, ki3, hsub, v3, s3, k3⟩
    have HKI3 := hid ki3
    have HV3 := hid v3
    have HK3 := hid (HK2.out.chain k3)
    have HSUB := hid hsub
    have hok := HV3.out.ok
    have HOK := hid hok
    clear ki3 v3 s3 k3 hsub hok
    go_wp2_with (fail)
    refine (l_Shape HV3.out of_).mono ?_
    rintro e w4 ⟨rfl, k4⟩
    have HK4 := hid k4
    obtain ⟨ns, hns⟩ : ∃ o : OB, t.shV of_ = o.shv ∧ (t.has of_ = true → o = t.obj of_) := by
      unfold MT.shV
      cases h : t.has of_
      · exact ⟨OB.zero, rfl, fun h => by cases h⟩
      · exact ⟨t.obj of_, rfl, fun _ => rfl⟩
    rw [hns.1]
    unfold OB.shv
    have HNS := hid hns.2
    clear hns k4
    have hez : ∀ V : World, (zeroValue 33).run Tryd.prog V = .ok (.agg #[.int .i64 0, .int .i64 0, .int .i64 0]) V := fun V => by kernel_rfl
    have kX := Kp.new w4 (.cells #[.int .i64 (ns.r : Int), .int .i64 (ns.d : Int), .int .i64 (ns.k : Int)] 33)
    have HVX := hid ((HV3.out.kp0 HK4.out).1.kp0 kX).1
    have HKX := hid ((HK3.out.chain HK4.out).chain kX)
    have HKIX := hid ((HKI3.out.stay (HV3.out.kp0 HK4.out).2).stay ((HV3.out.kp0 HK4.out).1.kp0 kX).2)
    have hbx := Blk.new w4 33 #[.int .i64 (ns.r : Int), .int .i64 (ns.d : Int), .int .i64 (ns.k : Int)]
    have cb2 := hbx.cell 2
    clear kX hbx
    generalize hx4 : (w4.alloc (.cells #[.int .i64 (ns.r : Int), .int .i64 (ns.d : Int), .int .i64 (ns.k : Int)] 33)) = x4 at HVX HKX HKIX cb2
    have HX4 := hid hx4
    clear hx4
    by_cases hh : t.has of_ = true
    · have hchk : t.chk of_ = 0 := by unfold MT.chk; rw [hh]; rfl
      rw [hchk]
      have hnk : ns = t.obj of_ := HNS.out hh
      by_cases hk : ns.k = 0
      · have hkb : ((ns.k : Int) == 0) = true := by simpa using hk
        have HKK : Hid ((t.obj of_).k = 0) := by show _ = _; rw [← hnk]; exact hk
        have HHH := hid hh
        clear hchk hk hnk hh
        go_upto_region 7 with (fail)
        rw [HX4.out]
        go_wp2_with (fail)
        refine (l_Ref HVX.out of_ ri).mono ?_
        rintro e w5 ⟨rfl, k5⟩
        obtain ⟨v5, s5⟩ := HVX.out.kp0 k5
        have HV5 := hid v5
        have HKI5 := hid (HKIX.out.stay s5)
        have HK5 := hid (HKX.out.chain k5)
        clear v5 s5 k5 cb2
        by_cases he : t.refE of_ ri = 0
        · rw [he]
          by_cases hv : t.refV of_ ri = 0
          · have HRV := hid hv
            rw [hv]
            clear he hv
            go_wp2_with (fail)
            refine (l_setRef HV5.out of_ ri id H64.out).mono ?_
            rintro e w6 ⟨rfl, v6, s6⟩
            have HM : Hid (MoreR w L0 g t vo w6) := ⟨t.srM of_ ri id, M, v6, HKI5.out.stay s6, (s6.sub HSUB.out).kp0 HK5.out HL0.out, HSUB.out, fun x hx => HOK.out.more_ref HKK.out HRV.out hx, by unfold MT.srM; split <;> rfl⟩
            clear v6 s6
            go_wp2_with (fail)
            obtain ⟨t1, M1, v6, ki6, k6, sub6, hm6, ob6⟩ := HM.out
            have HV6 := hid v6
            have HKI6 := hid ki6
            have HK6 := hid k6
            have HM6 := hid hm6
            have HOB6 := hid ob6
            have HSUB6 := hid sub6
            clear v6 ki6 k6 sub6 hm6 ob6 HM
            refine (l_kept HV6.out).mono ?_
            rintro e w7 ⟨vm, M2, rfl, ki7, hsub7, v7, s7, k7⟩
            have HV7 := hid v7
            have HKO7 := hid ((HKI6.out.stay s7).sub hsub7)
            have HKM7 := hid ki7
            have HK7 := hid (HK6.out.chain k7)
            have HSUB7 : Hid (∀ x ∈ L0, x ∈ M2) := fun x hx => hsub7 x (HSUB6.out x hx)
            clear ki7 hsub7 v7 s7 k7
            go_wp2_with (fail)
            refine (l_push HV7.out id).mono ?_
            rintro e w8 ⟨rfl, v8, s8⟩
            have HV8 := hid v8
            have HKO8 := hid (HKO7.out.stay s8)
            have HKM8 := hid (HKM7.out.stay s8)
            have HK8 : Hid (Kp [] w w8) := (s8.sub HSUB7.out).kp0 HK7.out HL0.out
            have HOB8 : Hid ((t1.pushM id).ob = t1.ob) := by
              show _ = _
              unfold MT.pushM
              split <;> rfl
            have HM8 : Hid (∀ x, t1.K x → (t1.pushM id).K x) := fun x hx => MT.more_root id hx
            have HOK1 := hid HV7.out.ok
            clear v8 s8
            generalize t1.pushM id = t2 at HV8 HOB8 HM8
            obtain ⟨nn, hnn⟩ : ∃ nn, nn = t.ob.length := ⟨_, rfl⟩
            have HNT : Hid (t.ob.length = nn) := hnn.symm
            have HN2 : Hid (t2.ob.length = nn) := by show _ = _; rw [HOB8.out, HOB6.out, hnn]
            have HN1 : Hid (t1.ob.length = nn) := by show _ = _; rw [HOB6.out, hnn]
            have hnl : nn ≤ 100000 := by rw [hnn]; exact HOK.out.small.1
            clear hnn
            have HKL : ∀ (tt : MT) (ok : tt.Ok), tt.ob.length = nn → ∀ z ∈ tt.kept, 0 ≤ z ∧ z ≤ (nn : Int) := fun tt ok e z hz => by
              have := ((ok.kept_mem z).1 hz).pos ok
              omega
            have HKLl : ∀ (tt : MT), tt.ob.length = nn → tt.kept.length ≤ 1000000000 := fun tt e => by
              have := trues_len tt.kb (tt.ob.length + 1)
              unfold MT.kept
              omega
            have HKLR := hid HKL
            have HKLN := hid HKLl
            clear HKL HKLl
            go_wp2_with (fail)
            refine (l_marks HV8.out (HKM8.out.isN (HKLN.out _ HN1.out)) (fun z hz => by have := HKLR.out _ HOK1.out HN1.out z hz; have := HN2.out; omega)).mono ?_
            rintro e w9 ⟨ga, rfl, ba, gea, k9⟩
            rw [HN2.out] at ba ⊢
            obtain ⟨v9, s9⟩ := HV8.out.kp0 k9
            have HV9 := hid v9
            have HKO9 := hid (HKO8.out.stay s9)
            have HKM9 := hid (HKM8.out.stay s9)
            have HK9 := hid (HK8.out.chain k9)
            have HBA9 := hid ba
            clear ba gea k9 v9 s9
            go_wp2_with (fail)
            refine (l_kept HV9.out).mono ?_
            rintro e w10 ⟨v2, M3, rfl, ki10, hsub10, v10, s10, k10⟩
            have HV10 := hid v10
            have HKO10 := hid (HKO9.out.stay s10)
            have HKM10 := hid (HKM9.out.stay s10)
            have HKT10 := hid ki10
            have HK10 := hid (HK9.out.chain k10)
            have HBA10 := hid (HBA9.out.kp k10 (by simp))
            clear ki10 hsub10 v10 s10 k10
            go_wp2_with (fail)
            refine (l_marks HV10.out (HKT10.out.isN (HKLN.out _ HN2.out)) (fun z hz => by have := HKLR.out _ HV10.out.ok HN2.out z hz; have := HN2.out; omega)).mono ?_
            rintro e w11 ⟨gb, rfl, bb, geb, k11⟩
            rw [HN2.out] at bb ⊢
            obtain ⟨v11, s11⟩ := HV10.out.kp0 k11
            have hno := (HKO10.out.isN (HKLN.out _ HNT.out)).kp0 k11
            have hnm := (HKM10.out.isN (HKLN.out _ HN1.out)).kp0 k11
            obtain ⟨Ao, co, rfl, ho1, hoat⟩ := hno
            obtain ⟨Am, cm, rfl, hm1, hmat⟩ := hnm
            have HK11 := hid (HK10.out.chain k11)
            have HBga := hid (HBA10.out.kp k11 (by simp))
            have HBgb := hid bb
            have Hlo := hid hoat
            have Hlm := hid hmat
            have Hmo : Hid (∀ z ∈ t.kept, ∃ zn : Nat, z = (zn : Int) ∧ zn < nn + 1 ∧ (marks (nn + 1) t1.kept).getD zn false = true) := fun z hz => by
              have h1 := HKLR.out _ HOK.out HNT.out z hz
              have h2 := (HOK1.out.kept_mem z).2 (HM6.out z ((HOK.out.kept_mem z).1 hz))
              obtain ⟨zn, rfl⟩ : ∃ k : Nat, z = (k : Int) := ⟨z.toNat, by omega⟩
              exact ⟨zn, rfl, by omega, marks_at (by omega) h2⟩
            have Hmm : Hid (∀ z ∈ t1.kept, ∃ zn : Nat, z = (zn : Int) ∧ zn < nn + 1 ∧ (marks (nn + 1) t2.kept).getD zn false = true) := fun z hz => by
              have h1 := HKLR.out _ HOK1.out HN1.out z hz
              have h2 := (HV10.out.ok.kept_mem z).2 (HM8.out z ((HOK1.out.kept_mem z).1 hz))
              obtain ⟨zn, rfl⟩ : ∃ k : Nat, z = (k : Int) := ⟨z.toNat, by omega⟩
              exact ⟨zn, rfl, by omega, marks_at (by omega) h2⟩
            obtain ⟨lol, hlo⟩ : ∃ k, k = t.kept.length := ⟨_, rfl⟩
            obtain ⟨lml, hlm⟩ : ∃ k, k = t1.kept.length := ⟨_, rfl⟩
            rw [← hlo] at ho1 ⊢
            rw [← hlm] at hm1 ⊢
            have HLlo := hid hlo
            have HLlm := hid hlm
            clear bb geb k11 v11 s11 hoat hmat hlo hlm
            go_wp2_with (fail)
            go_loop [20] (fun ct => ∃ i : Nat, i ≤ lol ∧ ct = .int .i64 (i : Int)) (fun ct => lol - (intOf ct).toNat)
            case atStart => exact ⟨0, by omega, rfl⟩
            case round =>
              obtain ⟨i, hi, rfl⟩ := hrel
              by_cases hlt : i < lol
              · obtain ⟨ga_, oa_, rfl, ca_⟩ := Hlo.out i (by rw [← HLlo.out]; exact hlt)
                obtain ⟨zn, hz, hzn, hmk⟩ := Hmo.out _ (getD_mem (by rw [← HLlo.out]; exact hlt))
                rw [hz] at ca_
                have ck : w11.cell? ⟨ga, zn, none⟩ = some (.bool true) := by
                  rw [← hmk]
                  exact (HBga.out.cell zn).trans (bcells_get (by rw [marks_len]; omega))
                have hli : (i : Int) < (lol : Int) := by omega
                have hzi : (zn : Int) < (nn : Int) + 1 := by omega
                clear hz hmk
                go_wp2
                go_round
                case rel => exact ⟨i + 1, by omega, by go_num⟩
                case measure => simp [intOf]; omega
              · obtain rfl : i = lol := by omega
                clear hlt
                go_wp2_with (fail)
                go_loop [21] (fun ct => ∃ i : Nat, i ≤ lml ∧ ct = .int .i64 (i : Int)) (fun ct => lml - (intOf ct).toNat)
                case atStart => exact ⟨0, by omega, rfl⟩
                case round =>
                  obtain ⟨i, hi, rfl⟩ := hrel
                  by_cases hlt : i < lml
                  · obtain ⟨ga_, oa_, rfl, ca_⟩ := Hlm.out i (by rw [← HLlm.out]; exact hlt)
                    obtain ⟨zn, hz, hzn, hmk⟩ := Hmm.out _ (getD_mem (by rw [← HLlm.out]; exact hlt))
                    rw [hz] at ca_
                    have ck : w11.cell? ⟨gb, zn, none⟩ = some (.bool true) := by
                      rw [← hmk]
                      exact (HBgb.out.cell zn).trans (bcells_get (by rw [marks_len]; omega))
                    have hli : (i : Int) < (lml : Int) := by omega
                    have hzi : (zn : Int) < (nn : Int) + 1 := by omega
                    clear hz hmk
                    go_wp2
                    go_round
                    case rel => exact ⟨i + 1, by omega, by go_num⟩
                    case measure => simp [intOf]; omega
                  · obtain rfl : i = lml := by omega
                    clear hlt
                    go_wp2_with (fail)
                    refine (m_alive (HLZ0.out.kp0 HK11.out)).mono ?_
                    rintro e w12 ⟨rfl, k12⟩
                    have HK12 := hid (HK11.out.chain k12)
                    clear k12
                    go_wp2
                    go_ret
                    exact ⟨rfl, HK12.out⟩
          · have hvb : (t.refV of_ ri == 0) = false := by simpa using hv
            clear he hv
            have HM : Hid (MoreR w L0 g t vo w5) := ⟨t, M, HV5.out, HKI5.out, HK5.out, HSUB.out, fun x hx => hx, rfl⟩
            go_wp2_with (fail)
            obtain ⟨t1, M1, v6, ki6, k6, sub6, hm6, ob6⟩ := HM.out
            have HV6 := hid v6
            have HKI6 := hid ki6
            have HK6 := hid k6
            have HM6 := hid hm6
            have HOB6 := hid ob6
            have HSUB6 := hid sub6
            clear v6 ki6 k6 sub6 hm6 ob6 HM
            refine (l_kept HV6.out).mono ?_
            rintro e w7 ⟨vm, M2, rfl, ki7, hsub7, v7, s7, k7⟩
            have HV7 := hid v7
            have HKO7 := hid ((HKI6.out.stay s7).sub hsub7)
            have HKM7 := hid ki7
            have HK7 := hid (HK6.out.chain k7)
            have HSUB7 : Hid (∀ x ∈ L0, x ∈ M2) := fun x hx => hsub7 x (HSUB6.out x hx)
            clear ki7 hsub7 v7 s7 k7
            go_wp2_with (fail)
            refine (l_push HV7.out id).mono ?_
            rintro e w8 ⟨rfl, v8, s8⟩
            have HV8 := hid v8
            have HKO8 := hid (HKO7.out.stay s8)
            have HKM8 := hid (HKM7.out.stay s8)
            have HK8 : Hid (Kp [] w w8) := (s8.sub HSUB7.out).kp0 HK7.out HL0.out
            have HOB8 : Hid ((t1.pushM id).ob = t1.ob) := by
              show _ = _
              unfold MT.pushM
              split <;> rfl
            have HM8 : Hid (∀ x, t1.K x → (t1.pushM id).K x) := fun x hx => MT.more_root id hx
            have HOK1 := hid HV7.out.ok
            clear v8 s8
            generalize t1.pushM id = t2 at HV8 HOB8 HM8
            obtain ⟨nn, hnn⟩ : ∃ nn, nn = t.ob.length := ⟨_, rfl⟩
            have HNT : Hid (t.ob.length = nn) := hnn.symm
            have HN2 : Hid (t2.ob.length = nn) := by show _ = _; rw [HOB8.out, HOB6.out, hnn]
            have HN1 : Hid (t1.ob.length = nn) := by show _ = _; rw [HOB6.out, hnn]
            have hnl : nn ≤ 100000 := by rw [hnn]; exact HOK.out.small.1
            clear hnn
            have HKL : ∀ (tt : MT) (ok : tt.Ok), tt.ob.length = nn → ∀ z ∈ tt.kept, 0 ≤ z ∧ z ≤ (nn : Int) := fun tt ok e z hz => by
              have := ((ok.kept_mem z).1 hz).pos ok
              omega
            have HKLl : ∀ (tt : MT), tt.ob.length = nn → tt.kept.length ≤ 1000000000 := fun tt e => by
              have := trues_len tt.kb (tt.ob.length + 1)
              unfold MT.kept
              omega
            have HKLR := hid HKL
            have HKLN := hid HKLl
            clear HKL HKLl
            go_wp2_with (fail)
            refine (l_marks HV8.out (HKM8.out.isN (HKLN.out _ HN1.out)) (fun z hz => by have := HKLR.out _ HOK1.out HN1.out z hz; have := HN2.out; omega)).mono ?_
            rintro e w9 ⟨ga, rfl, ba, gea, k9⟩
            rw [HN2.out] at ba ⊢
            obtain ⟨v9, s9⟩ := HV8.out.kp0 k9
            have HV9 := hid v9
            have HKO9 := hid (HKO8.out.stay s9)
            have HKM9 := hid (HKM8.out.stay s9)
            have HK9 := hid (HK8.out.chain k9)
            have HBA9 := hid ba
            clear ba gea k9 v9 s9
            go_wp2_with (fail)
            refine (l_kept HV9.out).mono ?_
            rintro e w10 ⟨v2, M3, rfl, ki10, hsub10, v10, s10, k10⟩
            have HV10 := hid v10
            have HKO10 := hid (HKO9.out.stay s10)
            have HKM10 := hid (HKM9.out.stay s10)
            have HKT10 := hid ki10
            have HK10 := hid (HK9.out.chain k10)
            have HBA10 := hid (HBA9.out.kp k10 (by simp))
            clear ki10 hsub10 v10 s10 k10
            go_wp2_with (fail)
            refine (l_marks HV10.out (HKT10.out.isN (HKLN.out _ HN2.out)) (fun z hz => by have := HKLR.out _ HV10.out.ok HN2.out z hz; have := HN2.out; omega)).mono ?_
            rintro e w11 ⟨gb, rfl, bb, geb, k11⟩
            rw [HN2.out] at bb ⊢
            obtain ⟨v11, s11⟩ := HV10.out.kp0 k11
            have hno := (HKO10.out.isN (HKLN.out _ HNT.out)).kp0 k11
            have hnm := (HKM10.out.isN (HKLN.out _ HN1.out)).kp0 k11
            obtain ⟨Ao, co, rfl, ho1, hoat⟩ := hno
            obtain ⟨Am, cm, rfl, hm1, hmat⟩ := hnm
            have HK11 := hid (HK10.out.chain k11)
            have HBga := hid (HBA10.out.kp k11 (by simp))
            have HBgb := hid bb
            have Hlo := hid hoat
            have Hlm := hid hmat
            have Hmo : Hid (∀ z ∈ t.kept, ∃ zn : Nat, z = (zn : Int) ∧ zn < nn + 1 ∧ (marks (nn + 1) t1.kept).getD zn false = true) := fun z hz => by
              have h1 := HKLR.out _ HOK.out HNT.out z hz
              have h2 := (HOK1.out.kept_mem z).2 (HM6.out z ((HOK.out.kept_mem z).1 hz))
              obtain ⟨zn, rfl⟩ : ∃ k : Nat, z = (k : Int) := ⟨z.toNat, by omega⟩
              exact ⟨zn, rfl, by omega, marks_at (by omega) h2⟩
            have Hmm : Hid (∀ z ∈ t1.kept, ∃ zn : Nat, z = (zn : Int) ∧ zn < nn + 1 ∧ (marks (nn + 1) t2.kept).getD zn false = true) := fun z hz => by
              have h1 := HKLR.out _ HOK1.out HN1.out z hz
              have h2 := (HV10.out.ok.kept_mem z).2 (HM8.out z ((HOK1.out.kept_mem z).1 hz))
              obtain ⟨zn, rfl⟩ : ∃ k : Nat, z = (k : Int) := ⟨z.toNat, by omega⟩
              exact ⟨zn, rfl, by omega, marks_at (by omega) h2⟩
            obtain ⟨lol, hlo⟩ : ∃ k, k = t.kept.length := ⟨_, rfl⟩
            obtain ⟨lml, hlm⟩ : ∃ k, k = t1.kept.length := ⟨_, rfl⟩
            rw [← hlo] at ho1 ⊢
            rw [← hlm] at hm1 ⊢
            have HLlo := hid hlo
            have HLlm := hid hlm
            clear bb geb k11 v11 s11 hoat hmat hlo hlm
            go_wp2_with (fail)
            go_loop [20] (fun ct => ∃ i : Nat, i ≤ lol ∧ ct = .int .i64 (i : Int)) (fun ct => lol - (intOf ct).toNat)
            case atStart => exact ⟨0, by omega, rfl⟩
            case round =>
              obtain ⟨i, hi, rfl⟩ := hrel
              by_cases hlt : i < lol
              · obtain ⟨ga_, oa_, rfl, ca_⟩ := Hlo.out i (by rw [← HLlo.out]; exact hlt)
                obtain ⟨zn, hz, hzn, hmk⟩ := Hmo.out _ (getD_mem (by rw [← HLlo.out]; exact hlt))
                rw [hz] at ca_
                have ck : w11.cell? ⟨ga, zn, none⟩ = some (.bool true) := by
                  rw [← hmk]
                  exact (HBga.out.cell zn).trans (bcells_get (by rw [marks_len]; omega))
                have hli : (i : Int) < (lol : Int) := by omega
                have hzi : (zn : Int) < (nn : Int) + 1 := by omega
                clear hz hmk
                go_wp2
                go_round
                case rel => exact ⟨i + 1, by omega, by go_num⟩
                case measure => simp [intOf]; omega
              · obtain rfl : i = lol := by omega
                clear hlt
                go_wp2_with (fail)
                go_loop [21] (fun ct => ∃ i : Nat, i ≤ lml ∧ ct = .int .i64 (i : Int)) (fun ct => lml - (intOf ct).toNat)
                case atStart => exact ⟨0, by omega, rfl⟩
                case round =>
                  obtain ⟨i, hi, rfl⟩ := hrel
                  by_cases hlt : i < lml
                  · obtain ⟨ga_, oa_, rfl, ca_⟩ := Hlm.out i (by rw [← HLlm.out]; exact hlt)
                    obtain ⟨zn, hz, hzn, hmk⟩ := Hmm.out _ (getD_mem (by rw [← HLlm.out]; exact hlt))
                    rw [hz] at ca_
                    have ck : w11.cell? ⟨gb, zn, none⟩ = some (.bool true) := by
                      rw [← hmk]
                      exact (HBgb.out.cell zn).trans (bcells_get (by rw [marks_len]; omega))
                    have hli : (i : Int) < (lml : Int) := by omega
                    have hzi : (zn : Int) < (nn : Int) + 1 := by omega
                    clear hz hmk
                    go_wp2
                    go_round
                    case rel => exact ⟨i + 1, by omega, by go_num⟩
                    case measure => simp [intOf]; omega
                  · obtain rfl : i = lml := by omega
                    clear hlt
                    go_wp2_with (fail)
                    refine (m_alive (HLZ0.out.kp0 HK11.out)).mono ?_
                    rintro e w12 ⟨rfl, k12⟩
                    have HK12 := hid (HK11.out.chain k12)
                    clear k12
                    go_wp2
                    go_ret
                    exact ⟨rfl, HK12.out⟩
        · have heb : (t.refE of_ ri == 0) = false := by simpa using he
          clear he
          have HM : Hid (MoreR w L0 g t vo w5) := ⟨t, M, HV5.out, HKI5.out, HK5.out, HSUB.out, fun x hx => hx, rfl⟩
          go_wp2_with (fail)
          obtain ⟨t1, M1, v6, ki6, k6, sub6, hm6, ob6⟩ := HM.out
          have HV6 := hid v6
          have HKI6 := hid ki6
          have HK6 := hid k6
          have HM6 := hid hm6
          have HOB6 := hid ob6
          have HSUB6 := hid sub6
          clear v6 ki6 k6 sub6 hm6 ob6 HM
          refine (l_kept HV6.out).mono ?_
          rintro e w7 ⟨vm, M2, rfl, ki7, hsub7, v7, s7, k7⟩
          have HV7 := hid v7
          have HKO7 := hid ((HKI6.out.stay s7).sub hsub7)
          have HKM7 := hid ki7
          have HK7 := hid (HK6.out.chain k7)
          have HSUB7 : Hid (∀ x ∈ L0, x ∈ M2) := fun x hx => hsub7 x (HSUB6.out x hx)
          clear ki7 hsub7 v7 s7 k7
          go_wp2_with (fail)
          refine (l_push HV7.out id).mono ?_
          rintro e w8 ⟨rfl, v8, s8⟩
          have HV8 := hid v8
          have HKO8 := hid (HKO7.out.stay s8)
          have HKM8 := hid (HKM7.out.stay s8)
          have HK8 : Hid (Kp [] w w8) := (s8.sub HSUB7.out).kp0 HK7.out HL0.out
          have HOB8 : Hid ((t1.pushM id).ob = t1.ob) := by
            show _ = _
            unfold MT.pushM
            split <;> rfl
          have HM8 : Hid (∀ x, t1.K x → (t1.pushM id).K x) := fun x hx => MT.more_root id hx
          have HOK1 := hid HV7.out.ok
          clear v8 s8
          generalize t1.pushM id = t2 at HV8 HOB8 HM8
          obtain ⟨nn, hnn⟩ : ∃ nn, nn = t.ob.length := ⟨_, rfl⟩
          have HNT : Hid (t.ob.length = nn) := hnn.symm
          have HN2 : Hid (t2.ob.length = nn) := by show _ = _; rw [HOB8.out, HOB6.out, hnn]
          have HN1 : Hid (t1.ob.length = nn) := by show _ = _; rw [HOB6.out, hnn]
          have hnl : nn ≤ 100000 := by rw [hnn]; exact HOK.out.small.1
          clear hnn
          have HKL : ∀ (tt : MT) (ok : tt.Ok), tt.ob.length = nn → ∀ z ∈ tt.kept, 0 ≤ z ∧ z ≤ (nn : Int) := fun tt ok e z hz => by
            have := ((ok.kept_mem z).1 hz).pos ok
            omega
          have HKLl : ∀ (tt : MT), tt.ob.length = nn → tt.kept.length ≤ 1000000000 := fun tt e => by
            have := trues_len tt.kb (tt.ob.length + 1)
            unfold MT.kept
            omega
          have HKLR := hid HKL
          have HKLN := hid HKLl
          clear HKL HKLl
          go_wp2_with (fail)
          refine (l_marks HV8.out (HKM8.out.isN (HKLN.out _ HN1.out)) (fun z hz => by have := HKLR.out _ HOK1.out HN1.out z hz; have := HN2.out; omega)).mono ?_
          rintro e w9 ⟨ga, rfl, ba, gea, k9⟩
          rw [HN2.out] at ba ⊢
          obtain ⟨v9, s9⟩ := HV8.out.kp0 k9
          have HV9 := hid v9
          have HKO9 := hid (HKO8.out.stay s9)
          have HKM9 := hid (HKM8.out.stay s9)
          have HK9 := hid (HK8.out.chain k9)
          have HBA9 := hid ba
          clear ba gea k9 v9 s9
          go_wp2_with (fail)
          refine (l_kept HV9.out).mono ?_
          rintro e w10 ⟨v2, M3, rfl, ki10, hsub10, v10, s10, k10⟩
          have HV10 := hid v10
          have HKO10 := hid (HKO9.out.stay s10)
          have HKM10 := hid (HKM9.out.stay s10)
          have HKT10 := hid ki10
          have HK10 := hid (HK9.out.chain k10)
          have HBA10 := hid (HBA9.out.kp k10 (by simp))
          clear ki10 hsub10 v10 s10 k10
          go_wp2_with (fail)
          refine (l_marks HV10.out (HKT10.out.isN (HKLN.out _ HN2.out)) (fun z hz => by have := HKLR.out _ HV10.out.ok HN2.out z hz; have := HN2.out; omega)).mono ?_
          rintro e w11 ⟨gb, rfl, bb, geb, k11⟩
          rw [HN2.out] at bb ⊢
          obtain ⟨v11, s11⟩ := HV10.out.kp0 k11
          have hno := (HKO10.out.isN (HKLN.out _ HNT.out)).kp0 k11
          have hnm := (HKM10.out.isN (HKLN.out _ HN1.out)).kp0 k11
          obtain ⟨Ao, co, rfl, ho1, hoat⟩ := hno
          obtain ⟨Am, cm, rfl, hm1, hmat⟩ := hnm
          have HK11 := hid (HK10.out.chain k11)
          have HBga := hid (HBA10.out.kp k11 (by simp))
          have HBgb := hid bb
          have Hlo := hid hoat
          have Hlm := hid hmat
          have Hmo : Hid (∀ z ∈ t.kept, ∃ zn : Nat, z = (zn : Int) ∧ zn < nn + 1 ∧ (marks (nn + 1) t1.kept).getD zn false = true) := fun z hz => by
            have h1 := HKLR.out _ HOK.out HNT.out z hz
            have h2 := (HOK1.out.kept_mem z).2 (HM6.out z ((HOK.out.kept_mem z).1 hz))
            obtain ⟨zn, rfl⟩ : ∃ k : Nat, z = (k : Int) := ⟨z.toNat, by omega⟩
            exact ⟨zn, rfl, by omega, marks_at (by omega) h2⟩
          have Hmm : Hid (∀ z ∈ t1.kept, ∃ zn : Nat, z = (zn : Int) ∧ zn < nn + 1 ∧ (marks (nn + 1) t2.kept).getD zn false = true) := fun z hz => by
            have h1 := HKLR.out _ HOK1.out HN1.out z hz
            have h2 := (HV10.out.ok.kept_mem z).2 (HM8.out z ((HOK1.out.kept_mem z).1 hz))
            obtain ⟨zn, rfl⟩ : ∃ k : Nat, z = (k : Int) := ⟨z.toNat, by omega⟩
            exact ⟨zn, rfl, by omega, marks_at (by omega) h2⟩
          obtain ⟨lol, hlo⟩ : ∃ k, k = t.kept.length := ⟨_, rfl⟩
          obtain ⟨lml, hlm⟩ : ∃ k, k = t1.kept.length := ⟨_, rfl⟩
          rw [← hlo] at ho1 ⊢
          rw [← hlm] at hm1 ⊢
          have HLlo := hid hlo
          have HLlm := hid hlm
          clear bb geb k11 v11 s11 hoat hmat hlo hlm
          go_wp2_with (fail)
          go_loop [20] (fun ct => ∃ i : Nat, i ≤ lol ∧ ct = .int .i64 (i : Int)) (fun ct => lol - (intOf ct).toNat)
          case atStart => exact ⟨0, by omega, rfl⟩
          case round =>
            obtain ⟨i, hi, rfl⟩ := hrel
            by_cases hlt : i < lol
            · obtain ⟨ga_, oa_, rfl, ca_⟩ := Hlo.out i (by rw [← HLlo.out]; exact hlt)
              obtain ⟨zn, hz, hzn, hmk⟩ := Hmo.out _ (getD_mem (by rw [← HLlo.out]; exact hlt))
              rw [hz] at ca_
              have ck : w11.cell? ⟨ga, zn, none⟩ = some (.bool true) := by
                rw [← hmk]
                exact (HBga.out.cell zn).trans (bcells_get (by rw [marks_len]; omega))
              have hli : (i : Int) < (lol : Int) := by omega
              have hzi : (zn : Int) < (nn : Int) + 1 := by omega
              clear hz hmk
              go_wp2
              go_round
              case rel => exact ⟨i + 1, by omega, by go_num⟩
              case measure => simp [intOf]; omega
            · obtain rfl : i = lol := by omega
              clear hlt
              go_wp2_with (fail)
              go_loop [21] (fun ct => ∃ i : Nat, i ≤ lml ∧ ct = .int .i64 (i : Int)) (fun ct => lml - (intOf ct).toNat)
              case atStart => exact ⟨0, by omega, rfl⟩
              case round =>
                obtain ⟨i, hi, rfl⟩ := hrel
                by_cases hlt : i < lml
                · obtain ⟨ga_, oa_, rfl, ca_⟩ := Hlm.out i (by rw [← HLlm.out]; exact hlt)
                  obtain ⟨zn, hz, hzn, hmk⟩ := Hmm.out _ (getD_mem (by rw [← HLlm.out]; exact hlt))
                  rw [hz] at ca_
                  have ck : w11.cell? ⟨gb, zn, none⟩ = some (.bool true) := by
                    rw [← hmk]
                    exact (HBgb.out.cell zn).trans (bcells_get (by rw [marks_len]; omega))
                  have hli : (i : Int) < (lml : Int) := by omega
                  have hzi : (zn : Int) < (nn : Int) + 1 := by omega
                  clear hz hmk
                  go_wp2
                  go_round
                  case rel => exact ⟨i + 1, by omega, by go_num⟩
                  case measure => simp [intOf]; omega
                · obtain rfl : i = lml := by omega
                  clear hlt
                  go_wp2_with (fail)
                  refine (m_alive (HLZ0.out.kp0 HK11.out)).mono ?_
                  rintro e w12 ⟨rfl, k12⟩
                  have HK12 := hid (HK11.out.chain k12)
                  clear k12
                  go_wp2
                  go_ret
                  exact ⟨rfl, HK12.out⟩
      · have hkb : ((ns.k : Int) == 0) = false := by simpa using hk
        clear hchk hk hnk hh
        have HM : Hid (MoreR w L0 g t vo x4) := ⟨t, M, HVX.out, HKIX.out, HKX.out, HSUB.out, fun x hx => hx, rfl⟩
        go_upto_region 10 with (fail)
        rw [HX4.out]
        go_wp2_with (fail)
        obtain ⟨t1, M1, v6, ki6, k6, sub6, hm6, ob6⟩ := HM.out
        have HV6 := hid v6
        have HKI6 := hid ki6
        have HK6 := hid k6
        have HM6 := hid hm6
        have HOB6 := hid ob6
        have HSUB6 := hid sub6
        clear v6 ki6 k6 sub6 hm6 ob6 HM
        refine (l_kept HV6.out).mono ?_
        rintro e w7 ⟨vm, M2, rfl, ki7, hsub7, v7, s7, k7⟩
        have HV7 := hid v7
        have HKO7 := hid ((HKI6.out.stay s7).sub hsub7)
        have HKM7 := hid ki7
        have HK7 := hid (HK6.out.chain k7)
        have HSUB7 : Hid (∀ x ∈ L0, x ∈ M2) := fun x hx => hsub7 x (HSUB6.out x hx)
        clear ki7 hsub7 v7 s7 k7
        go_wp2_with (fail)
        refine (l_push HV7.out id).mono ?_
        rintro e w8 ⟨rfl, v8, s8⟩
        have HV8 := hid v8
        have HKO8 := hid (HKO7.out.stay s8)
        have HKM8 := hid (HKM7.out.stay s8)
        have HK8 : Hid (Kp [] w w8) := (s8.sub HSUB7.out).kp0 HK7.out HL0.out
        have HOB8 : Hid ((t1.pushM id).ob = t1.ob) := by
          show _ = _
          unfold MT.pushM
          split <;> rfl
        have HM8 : Hid (∀ x, t1.K x → (t1.pushM id).K x) := fun x hx => MT.more_root id hx
        have HOK1 := hid HV7.out.ok
        clear v8 s8
        generalize t1.pushM id = t2 at HV8 HOB8 HM8
        obtain ⟨nn, hnn⟩ : ∃ nn, nn = t.ob.length := ⟨_, rfl⟩
        have HNT : Hid (t.ob.length = nn) := hnn.symm
        have HN2 : Hid (t2.ob.length = nn) := by show _ = _; rw [HOB8.out, HOB6.out, hnn]
        have HN1 : Hid (t1.ob.length = nn) := by show _ = _; rw [HOB6.out, hnn]
        have hnl : nn ≤ 100000 := by rw [hnn]; exact HOK.out.small.1
        clear hnn
        have HKL : ∀ (tt : MT) (ok : tt.Ok), tt.ob.length = nn → ∀ z ∈ tt.kept, 0 ≤ z ∧ z ≤ (nn : Int) := fun tt ok e z hz => by
          have := ((ok.kept_mem z).1 hz).pos ok
          omega
        have HKLl : ∀ (tt : MT), tt.ob.length = nn → tt.kept.length ≤ 1000000000 := fun tt e => by
          have := trues_len tt.kb (tt.ob.length + 1)
          unfold MT.kept
          omega
        have HKLR := hid HKL
        have HKLN := hid HKLl
        clear HKL HKLl
        go_wp2_with (fail)
        refine (l_marks HV8.out (HKM8.out.isN (HKLN.out _ HN1.out)) (fun z hz => by have := HKLR.out _ HOK1.out HN1.out z hz; have := HN2.out; omega)).mono ?_
        rintro e w9 ⟨ga, rfl, ba, gea, k9⟩
        rw [HN2.out] at ba ⊢
        obtain ⟨v9, s9⟩ := HV8.out.kp0 k9
        have HV9 := hid v9
        have HKO9 := hid (HKO8.out.stay s9)
        have HKM9 := hid (HKM8.out.stay s9)
        have HK9 := hid (HK8.out.chain k9)
        have HBA9 := hid ba
        clear ba gea k9 v9 s9
        go_wp2_with (fail)
        refine (l_kept HV9.out).mono ?_
        rintro e w10 ⟨v2, M3, rfl, ki10, hsub10, v10, s10, k10⟩
        have HV10 := hid v10
        have HKO10 := hid (HKO9.out.stay s10)
        have HKM10 := hid (HKM9.out.stay s10)
        have HKT10 := hid ki10
        have HK10 := hid (HK9.out.chain k10)
        have HBA10 := hid (HBA9.out.kp k10 (by simp))
        clear ki10 hsub10 v10 s10 k10
        go_wp2_with (fail)
        refine (l_marks HV10.out (HKT10.out.isN (HKLN.out _ HN2.out)) (fun z hz => by have := HKLR.out _ HV10.out.ok HN2.out z hz; have := HN2.out; omega)).mono ?_
        rintro e w11 ⟨gb, rfl, bb, geb, k11⟩
        rw [HN2.out] at bb ⊢
        obtain ⟨v11, s11⟩ := HV10.out.kp0 k11
        have hno := (HKO10.out.isN (HKLN.out _ HNT.out)).kp0 k11
        have hnm := (HKM10.out.isN (HKLN.out _ HN1.out)).kp0 k11
        obtain ⟨Ao, co, rfl, ho1, hoat⟩ := hno
        obtain ⟨Am, cm, rfl, hm1, hmat⟩ := hnm
        have HK11 := hid (HK10.out.chain k11)
        have HBga := hid (HBA10.out.kp k11 (by simp))
        have HBgb := hid bb
        have Hlo := hid hoat
        have Hlm := hid hmat
        have Hmo : Hid (∀ z ∈ t.kept, ∃ zn : Nat, z = (zn : Int) ∧ zn < nn + 1 ∧ (marks (nn + 1) t1.kept).getD zn false = true) := fun z hz => by
          have h1 := HKLR.out _ HOK.out HNT.out z hz
          have h2 := (HOK1.out.kept_mem z).2 (HM6.out z ((HOK.out.kept_mem z).1 hz))
          obtain ⟨zn, rfl⟩ : ∃ k : Nat, z = (k : Int) := ⟨z.toNat, by omega⟩
          exact ⟨zn, rfl, by omega, marks_at (by omega) h2⟩
        have Hmm : Hid (∀ z ∈ t1.kept, ∃ zn : Nat, z = (zn : Int) ∧ zn < nn + 1 ∧ (marks (nn + 1) t2.kept).getD zn false = true) := fun z hz => by
          have h1 := HKLR.out _ HOK1.out HN1.out z hz
          have h2 := (HV10.out.ok.kept_mem z).2 (HM8.out z ((HOK1.out.kept_mem z).1 hz))
          obtain ⟨zn, rfl⟩ : ∃ k : Nat, z = (k : Int) := ⟨z.toNat, by omega⟩
          exact ⟨zn, rfl, by omega, marks_at (by omega) h2⟩
        obtain ⟨lol, hlo⟩ : ∃ k, k = t.kept.length := ⟨_, rfl⟩
        obtain ⟨lml, hlm⟩ : ∃ k, k = t1.kept.length := ⟨_, rfl⟩
        rw [← hlo] at ho1 ⊢
        rw [← hlm] at hm1 ⊢
        have HLlo := hid hlo
        have HLlm := hid hlm
        clear bb geb k11 v11 s11 hoat hmat hlo hlm
        go_wp2_with (fail)
        go_loop [20] (fun ct => ∃ i : Nat, i ≤ lol ∧ ct = .int .i64 (i : Int)) (fun ct => lol - (intOf ct).toNat)
        case atStart => exact ⟨0, by omega, rfl⟩
        case round =>
          obtain ⟨i, hi, rfl⟩ := hrel
          by_cases hlt : i < lol
          · obtain ⟨ga_, oa_, rfl, ca_⟩ := Hlo.out i (by rw [← HLlo.out]; exact hlt)
            obtain ⟨zn, hz, hzn, hmk⟩ := Hmo.out _ (getD_mem (by rw [← HLlo.out]; exact hlt))
            rw [hz] at ca_
            have ck : w11.cell? ⟨ga, zn, none⟩ = some (.bool true) := by
              rw [← hmk]
              exact (HBga.out.cell zn).trans (bcells_get (by rw [marks_len]; omega))
            have hli : (i : Int) < (lol : Int) := by omega
            have hzi : (zn : Int) < (nn : Int) + 1 := by omega
            clear hz hmk
            go_wp2
            go_round
            case rel => exact ⟨i + 1, by omega, by go_num⟩
            case measure => simp [intOf]; omega
          · obtain rfl : i = lol := by omega
            clear hlt
            go_wp2_with (fail)
            go_loop [21] (fun ct => ∃ i : Nat, i ≤ lml ∧ ct = .int .i64 (i : Int)) (fun ct => lml - (intOf ct).toNat)
            case atStart => exact ⟨0, by omega, rfl⟩
            case round =>
              obtain ⟨i, hi, rfl⟩ := hrel
              by_cases hlt : i < lml
              · obtain ⟨ga_, oa_, rfl, ca_⟩ := Hlm.out i (by rw [← HLlm.out]; exact hlt)
                obtain ⟨zn, hz, hzn, hmk⟩ := Hmm.out _ (getD_mem (by rw [← HLlm.out]; exact hlt))
                rw [hz] at ca_
                have ck : w11.cell? ⟨gb, zn, none⟩ = some (.bool true) := by
                  rw [← hmk]
                  exact (HBgb.out.cell zn).trans (bcells_get (by rw [marks_len]; omega))
                have hli : (i : Int) < (lml : Int) := by omega
                have hzi : (zn : Int) < (nn : Int) + 1 := by omega
                clear hz hmk
                go_wp2
                go_round
                case rel => exact ⟨i + 1, by omega, by go_num⟩
                case measure => simp [intOf]; omega
              · obtain rfl : i = lml := by omega
                clear hlt
                go_wp2_with (fail)
                refine (m_alive (HLZ0.out.kp0 HK11.out)).mono ?_
                rintro e w12 ⟨rfl, k12⟩
                have HK12 := hid (HK11.out.chain k12)
                clear k12
                go_wp2
                go_ret
                exact ⟨rfl, HK12.out⟩
    · have hchk : t.chk of_ = 4 := by unfold MT.chk; rw [if_neg hh]
      rw [hchk]
      clear hchk hh
      have HM : Hid (MoreR w L0 g t vo x4) := ⟨t, M, HVX.out, HKIX.out, HKX.out, HSUB.out, fun x hx => hx, rfl⟩
      go_upto_region 10 with (fail)
      rw [HX4.out]
      go_wp2_with (fail)
      obtain ⟨t1, M1, v6, ki6, k6, sub6, hm6, ob6⟩ := HM.out
      have HV6 := hid v6
      have HKI6 := hid ki6
      have HK6 := hid k6
      have HM6 := hid hm6
      have HOB6 := hid ob6
      have HSUB6 := hid sub6
      clear v6 ki6 k6 sub6 hm6 ob6 HM
      refine (l_kept HV6.out).mono ?_
      rintro e w7 ⟨vm, M2, rfl, ki7, hsub7, v7, s7, k7⟩
      have HV7 := hid v7
      have HKO7 := hid ((HKI6.out.stay s7).sub hsub7)
      have HKM7 := hid ki7
      have HK7 := hid (HK6.out.chain k7)
      have HSUB7 : Hid (∀ x ∈ L0, x ∈ M2) := fun x hx => hsub7 x (HSUB6.out x hx)
      clear ki7 hsub7 v7 s7 k7
      go_wp2_with (fail)
      refine (l_push HV7.out id).mono ?_
      rintro e w8 ⟨rfl, v8, s8⟩
      have HV8 := hid v8
      have HKO8 := hid (HKO7.out.stay s8)
      have HKM8 := hid (HKM7.out.stay s8)
      have HK8 : Hid (Kp [] w w8) := (s8.sub HSUB7.out).kp0 HK7.out HL0.out
      have HOB8 : Hid ((t1.pushM id).ob = t1.ob) := by
        show _ = _
        unfold MT.pushM
        split <;> rfl
      have HM8 : Hid (∀ x, t1.K x → (t1.pushM id).K x) := fun x hx => MT.more_root id hx
      have HOK1 := hid HV7.out.ok
      clear v8 s8
      generalize t1.pushM id = t2 at HV8 HOB8 HM8
      obtain ⟨nn, hnn⟩ : ∃ nn, nn = t.ob.length := ⟨_, rfl⟩
      have HNT : Hid (t.ob.length = nn) := hnn.symm
      have HN2 : Hid (t2.ob.length = nn) := by show _ = _; rw [HOB8.out, HOB6.out, hnn]
      have HN1 : Hid (t1.ob.length = nn) := by show _ = _; rw [HOB6.out, hnn]
      have hnl : nn ≤ 100000 := by rw [hnn]; exact HOK.out.small.1
      clear hnn
      have HKL : ∀ (tt : MT) (ok : tt.Ok), tt.ob.length = nn → ∀ z ∈ tt.kept, 0 ≤ z ∧ z ≤ (nn : Int) := fun tt ok e z hz => by
        have := ((ok.kept_mem z).1 hz).pos ok
        omega
      have HKLl : ∀ (tt : MT), tt.ob.length = nn → tt.kept.length ≤ 1000000000 := fun tt e => by
        have := trues_len tt.kb (tt.ob.length + 1)
        unfold MT.kept
        omega
      have HKLR := hid HKL
      have HKLN := hid HKLl
      clear HKL HKLl
      go_wp2_with (fail)
      refine (l_marks HV8.out (HKM8.out.isN (HKLN.out _ HN1.out)) (fun z hz => by have := HKLR.out _ HOK1.out HN1.out z hz; have := HN2.out; omega)).mono ?_
      rintro e w9 ⟨ga, rfl, ba, gea, k9⟩
      rw [HN2.out] at ba ⊢
      obtain ⟨v9, s9⟩ := HV8.out.kp0 k9
      have HV9 := hid v9
      have HKO9 := hid (HKO8.out.stay s9)
      have HKM9 := hid (HKM8.out.stay s9)
      have HK9 := hid (HK8.out.chain k9)
      have HBA9 := hid ba
      clear ba gea k9 v9 s9
      go_wp2_with (fail)
      refine (l_kept HV9.out).mono ?_
      rintro e w10 ⟨v2, M3, rfl, ki10, hsub10, v10, s10, k10⟩
      have HV10 := hid v10
      have HKO10 := hid (HKO9.out.stay s10)
      have HKM10 := hid (HKM9.out.stay s10)
      have HKT10 := hid ki10
      have HK10 := hid (HK9.out.chain k10)
      have HBA10 := hid (HBA9.out.kp k10 (by simp))
      clear ki10 hsub10 v10 s10 k10
      go_wp2_with (fail)
      refine (l_marks HV10.out (HKT10.out.isN (HKLN.out _ HN2.out)) (fun z hz => by have := HKLR.out _ HV10.out.ok HN2.out z hz; have := HN2.out; omega)).mono ?_
      rintro e w11 ⟨gb, rfl, bb, geb, k11⟩
      rw [HN2.out] at bb ⊢
      obtain ⟨v11, s11⟩ := HV10.out.kp0 k11
      have hno := (HKO10.out.isN (HKLN.out _ HNT.out)).kp0 k11
      have hnm := (HKM10.out.isN (HKLN.out _ HN1.out)).kp0 k11
      obtain ⟨Ao, co, rfl, ho1, hoat⟩ := hno
      obtain ⟨Am, cm, rfl, hm1, hmat⟩ := hnm
      have HK11 := hid (HK10.out.chain k11)
      have HBga := hid (HBA10.out.kp k11 (by simp))
      have HBgb := hid bb
      have Hlo := hid hoat
      have Hlm := hid hmat
      have Hmo : Hid (∀ z ∈ t.kept, ∃ zn : Nat, z = (zn : Int) ∧ zn < nn + 1 ∧ (marks (nn + 1) t1.kept).getD zn false = true) := fun z hz => by
        have h1 := HKLR.out _ HOK.out HNT.out z hz
        have h2 := (HOK1.out.kept_mem z).2 (HM6.out z ((HOK.out.kept_mem z).1 hz))
        obtain ⟨zn, rfl⟩ : ∃ k : Nat, z = (k : Int) := ⟨z.toNat, by omega⟩
        exact ⟨zn, rfl, by omega, marks_at (by omega) h2⟩
      have Hmm : Hid (∀ z ∈ t1.kept, ∃ zn : Nat, z = (zn : Int) ∧ zn < nn + 1 ∧ (marks (nn + 1) t2.kept).getD zn false = true) := fun z hz => by
        have h1 := HKLR.out _ HOK1.out HN1.out z hz
        have h2 := (HV10.out.ok.kept_mem z).2 (HM8.out z ((HOK1.out.kept_mem z).1 hz))
        obtain ⟨zn, rfl⟩ : ∃ k : Nat, z = (k : Int) := ⟨z.toNat, by omega⟩
        exact ⟨zn, rfl, by omega, marks_at (by omega) h2⟩
      obtain ⟨lol, hlo⟩ : ∃ k, k = t.kept.length := ⟨_, rfl⟩
      obtain ⟨lml, hlm⟩ : ∃ k, k = t1.kept.length := ⟨_, rfl⟩
      rw [← hlo] at ho1 ⊢
      rw [← hlm] at hm1 ⊢
      have HLlo := hid hlo
      have HLlm := hid hlm
      clear bb geb k11 v11 s11 hoat hmat hlo hlm
      go_wp2_with (fail)
      go_loop [20] (fun ct => ∃ i : Nat, i ≤ lol ∧ ct = .int .i64 (i : Int)) (fun ct => lol - (intOf ct).toNat)
      case atStart => exact ⟨0, by omega, rfl⟩
      case round =>
        obtain ⟨i, hi, rfl⟩ := hrel
        by_cases hlt : i < lol
        · obtain ⟨ga_, oa_, rfl, ca_⟩ := Hlo.out i (by rw [← HLlo.out]; exact hlt)
          obtain ⟨zn, hz, hzn, hmk⟩ := Hmo.out _ (getD_mem (by rw [← HLlo.out]; exact hlt))
          rw [hz] at ca_
          have ck : w11.cell? ⟨ga, zn, none⟩ = some (.bool true) := by
            rw [← hmk]
            exact (HBga.out.cell zn).trans (bcells_get (by rw [marks_len]; omega))
          have hli : (i : Int) < (lol : Int) := by omega
          have hzi : (zn : Int) < (nn : Int) + 1 := by omega
          clear hz hmk
          go_wp2
          go_round
          case rel => exact ⟨i + 1, by omega, by go_num⟩
          case measure => simp [intOf]; omega
        · obtain rfl : i = lol := by omega
          clear hlt
          go_wp2_with (fail)
          go_loop [21] (fun ct => ∃ i : Nat, i ≤ lml ∧ ct = .int .i64 (i : Int)) (fun ct => lml - (intOf ct).toNat)
          case atStart => exact ⟨0, by omega, rfl⟩
          case round =>
            obtain ⟨i, hi, rfl⟩ := hrel
            by_cases hlt : i < lml
            · obtain ⟨ga_, oa_, rfl, ca_⟩ := Hlm.out i (by rw [← HLlm.out]; exact hlt)
              obtain ⟨zn, hz, hzn, hmk⟩ := Hmm.out _ (getD_mem (by rw [← HLlm.out]; exact hlt))
              rw [hz] at ca_
              have ck : w11.cell? ⟨gb, zn, none⟩ = some (.bool true) := by
                rw [← hmk]
                exact (HBgb.out.cell zn).trans (bcells_get (by rw [marks_len]; omega))
              have hli : (i : Int) < (lml : Int) := by omega
              have hzi : (zn : Int) < (nn : Int) + 1 := by omega
              clear hz hmk
              go_wp2
              go_round
              case rel => exact ⟨i + 1, by omega, by go_num⟩
              case measure => simp [intOf]; omega
            · obtain rfl : i = lml := by omega
              clear hlt
              go_wp2_with (fail)
              refine (m_alive (HLZ0.out.kp0 HK11.out)).mono ?_
              rintro e w12 ⟨rfl, k12⟩
              have HK12 := hid (HK11.out.chain k12)
              clear k12
              go_wp2
              go_ret
              exact ⟨rfl, HK12.out⟩
end
end Go.Proofs.YtbiompmklijgoaaDoor
