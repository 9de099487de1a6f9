/-
  The law AllocLines, walked. Conditions: those that stand in each theorem.
-/
import Derived.Test.YtmkmnlmfpddjkaaGreatPOw
import Derived.Test.YtmkmnlmfpddjkaaGreatPG20
namespace Go.Proofs.YtmkmnlmfpddjkaaGreat
set_option linter.unusedVariables false
set_option linter.unusedSimpArgs false
open Go.RowKit Go.Deep Go.Maps

theorem holN_free (L : List Bool) (i : Nat) : ∀ h ∈ holN L i, L.getD h.1 false = false := by
  induction i with
  | zero => intro h hh; cases hh
  | succ i ih =>
    intro h hh
    unfold holN at hh
    split at hh
    · exact ih h hh
    · rename_i ht
      have ht2 : L.getD i false = false := by simpa using ht
      split at hh
      · rename_i hp
        rcases List.mem_append.1 hh with h1 | h1
        · exact ih h (List.dropLast_subset _ h1)
        · rw [List.mem_singleton] at h1
          subst h1
          have hpos := holN_some hp.1 hp.2
          have hne : holN L i ≠ [] := by intro e; rw [e] at hpos; cases hpos
          have hl : (holN L i).getLastD (0, 0) = (holN L i).getLast hne := by
            rw [List.getLastD_eq_getLast?, List.getLast?_eq_some_getLast hne]
            rfl
          show L.getD ((holN L i).getLastD (0, 0)).1 false = false
          rw [hl]
          exact ih _ (List.getLast_mem hne)
      · rcases List.mem_append.1 hh with h1 | h1
        · exact ih h h1
        · rw [List.mem_singleton] at h1
          subst h1
          exact ht2
/-- Where Lines places a small object. -/
theorem lines_spec {m : HM} {A : AS} (I : m.Inv) (hp : A.po = 4) {x y z : Int} (hv : vldB x y z = true) {n : Nat} (hn : wdN x.toNat y.toNat = n) (h8 : n ≤ 8) (he : m.alE A x y z = 0) :
    m.alV A x y z = A.c ∨ (m.alV A x y z % 8 = 0 ∧ (m.lineL ((m.alV A x y z / 64 : Nat) : Int) = [] ∨ (m.lineL ((m.alV A x y z / 64 : Nat) : Int)).getD (m.alV A x y z / 8 % 8) false = false)) := by
  have hV : m.alV A x y z = (m.choose A n).1 := by unfold HM.alV; rw [if_pos hv, hn]
  have hc0 : (m.choose A n).1 ≠ 0 := fun h => by
    rw [alE_of hv hn, if_pos h] at he
    cases he
  rw [hV]
  unfold HM.choose at hc0 ⊢
  rw [if_neg (by omega), if_neg (by omega), if_neg (by omega), if_neg (by omega), if_neg (by omega)] at hc0 ⊢
  by_cases hf : A.c + n ≤ A.l
  · rw [if_pos hf] at hc0 ⊢
    simp only at hc0 ⊢
    unfold HM.bumpA at hc0 ⊢
    rw [if_pos (fits_iff.2 hf)] at hc0 ⊢
    by_cases hg : m.isGapB A.sp A.c n = true
    · rw [if_pos hg]
      exact .inl rfl
    · rw [if_neg hg] at hc0
      exact absurd rfl hc0
  · rw [if_neg hf, if_neg (by omega)] at hc0 ⊢
    simp only at hc0 ⊢
    refine .inr ?_
    have e1 : (takeA (m.holeA A.sp A.l) n).1 = (m.holeA A.sp A.l).1 := rfl
    rw [e1] at hc0 ⊢
    unfold HM.holeA at hc0 ⊢
    rcases hfd : (holsL m A.sp m.bl.length).find? (fun a => decide (A.l ≤ a.1)) with _ | a
    · simp only [hfd] at hc0 ⊢
      have hc1 : m.freeB 1 ≠ 0 := hc0
      obtain ⟨k, h1, h2, h3, _, _, h6⟩ := freeB_some (c := 1) (by omega) hc1
      show m.freeB 1 % 8 = 0 ∧ (m.lineL ((m.freeB 1 / 64 : Nat) : Int) = [] ∨ _)
      have hk : m.freeB 1 / 64 = k := by omega
      refine ⟨by omega, .inl ?_⟩
      rw [hk]
      unfold HM.lineL
      rw [if_neg]
      rintro ⟨_, h⟩
      rw [Int.toNat_natCast] at h
      omega
    · simp only [hfd] at hc0 ⊢
      have hm := List.mem_of_find?_eq_some hfd
      unfold holsL at hm
      obtain ⟨k, hk, ha⟩ := List.mem_flatMap.1 hm
      obtain ⟨hk1, hk2⟩ := mem_blkS.1 hk
      have hk3 := of_decide_eq_true hk2
      obtain ⟨h, hh, rfl⟩ := List.mem_map.1 ha
      have hb := holN_bd (m.lnL k) (m.lnL k).length h hh
      have hl8 : (m.lnL k).length = 8 := by simp [HM.lnL]
      have hfr := holN_free (m.lnL k) (m.lnL k).length h hh
      show (k * 64 + h.1 * 8) % 8 = 0 ∧ (m.lineL (((k * 64 + h.1 * 8) / 64 : Nat) : Int) = [] ∨ (m.lineL (((k * 64 + h.1 * 8) / 64 : Nat) : Int)).getD ((k * 64 + h.1 * 8) / 8 % 8) false = false)
      have q1 : (k * 64 + h.1 * 8) / 64 = k := by omega
      have q2 : (k * 64 + h.1 * 8) / 8 % 8 = h.1 := by omega
      refine ⟨by omega, .inr ?_⟩
      rw [q1, q2]
      have e : m.lineL (k : Int) = m.lnL k := by
        unfold HM.lineL
        rw [if_pos ⟨decide_eq_true ⟨by omega, by omega⟩, by rw [Int.toNat_natCast]; exact hk3.1⟩, Int.toNat_natCast]
      rw [e]
      exact hfr
section
variable {w W V w0 : World} {b : HB} {m : HM} {q g B : Nat} {A : AS}
theorem lines_k {c : HB} {q2 : Nat} (S : SH W c q2 m) (i : Int) :
    Calls Tryz.prog 39 #[.pointer (some ⟨c.g, 0, none⟩), .int .i64 i] W fun e w' => ∃ (Ad : Option Addr) (cap : Nat), e = .returned (.slice Ad (m.lineL i).length cap) ∧ (∀ j, j < (m.lineL i).length → ∃ gb, Ad = some ⟨gb, 0, none⟩ ∧ w'.cell? ⟨gb, j, none⟩ = some (.bool ((m.lineL i).getD j false))) ∧ Kp [] W w' := by
  refine (h_linesP S i).mono ?_
  rintro e w' ⟨v, rfl, ⟨Ad, cap, rfl, hc⟩, K⟩
  exact ⟨Ad, cap, rfl, hc, K⟩
set_option maxRecDepth 100000 in
set_option maxHeartbeats 4000000 in
theorem lines_ok (n s : Int) (Ad : Option Addr) (len cap : Nat) (hA : QActs w Ad len) (x y z : Int) :
    Calls Tryz.prog 7 #[.int .i64 n, .int .i64 s, .slice Ad len cap, .agg #[.int .i64 x, .int .i64 y, .int .i64 z]] w (TrueP w) := by
  have HQA := hid (hA.kp0 (Kp.new w (.cells #[.int .i64 x, .int .i64 y, .int .i64 z] 33)))
  have hb := Blk.new w 33 #[.int .i64 x, .int .i64 y, .int .i64 z]
  have b0 := hb.cell 0
  have b1 := hb.cell 1
  have b2 := hb.cell 2
  have HK0 := hid (Kp.new w (.cells #[.int .i64 x, .int .i64 y, .int .i64 z] 33))
  clear hA hb
  go_enter Tryz.func7, Tryz.ntmps7
  go_wp2_with (fail)
  generalize w.alloc (.cells #[.int .i64 x, .int .i64 y, .int .i64 z] 33) = w0 at HQA b0 b1 b2 HK0 ⊢
  generalize w.heap.size = gb at b0 b1 b2 ⊢
  refine (made_any n s 4 Ad len cap HQA.out).mono ?_
  rintro e w1 (⟨rfl, K1⟩ | ⟨n', s', p', rfl, rfl, hp', _, _, _, _, b, q, m, g, A, rfl, U1, hq, _, hR⟩)
  · have HK1 := hid K1
    clear K1
    go_wp2_with (go_at_call 20; refine (al_alive_q HK1.out).mono ?_; rintro e wa ⟨rfl, Ka⟩; have HKA := hid (HK0.out.chain Ka); clear Ka)
    go_ret
    exact ⟨rfl, HKA.out⟩
  have HU1 := hid U1
  obtain ⟨hsp, hpo⟩ := hR.sp
  have HPO : Hid (A.po = 4) := by show _ = _; omega
  obtain ⟨wn, hw, hwb, hwv, hwi⟩ := wordsI_nat x y z
  have HW := hid hw
  have HWV := hid hwv
  have c0 := cell_kp U1.kp b0
  have c1 := cell_kp U1.kp b1
  have c2 := cell_kp U1.kp b2
  have B0 := hid b0
  have B1 := hid b1
  have B2 := hid b2
  clear U1 hR hsp hpo hw hwv hwi b0 b1 b2 hp'
  have hq9 : q ≤ 900000000 := by omega
  by_cases h8 : 8 < wn
  · have t8 : decide ((8 : Int) < (wn : Int)) = true := decide_eq_true (by omega)
    have t8n : decide (8 < wn) = true := decide_eq_true h8
    go_wp2_with (first
      | (go_at_call 37; refine (words_k HU1.out HW.out).mono ?_; rintro e w3 ⟨rfl, U3, K3⟩; have HU3 := hid U3; clear U3 K3)
      | (go_at_call 20; refine (al_alive_q HU3.out.kp).mono ?_; rintro e wa ⟨rfl, Ka⟩; have HKA := hid (HK0.out.chain Ka); clear Ka))
    go_ret
    exact ⟨rfl, HKA.out⟩
  have t8 : decide ((8 : Int) < (wn : Int)) = false := decide_eq_false (by omega)
  have t8n : decide (8 < wn) = false := decide_eq_false h8
  obtain ⟨ev, hev⟩ : ∃ r, m.alE A x y z = r := ⟨_, rfl⟩
  obtain ⟨av, hav⟩ : ∃ r, m.alV A x y z = r := ⟨_, rfl⟩
  have HEV := hid hev
  have HAV := hid hav
  obtain ⟨ca, hca⟩ : ∃ r, A.c = r := ⟨_, rfl⟩
  have HCA := hid hca
  by_cases hz : ev = 0
  · have te : (ev != 0) = false := by simp [hz]
    have HVV : Hid (vldB x y z = true) := by
      show _ = _
      rcases hv : vldB x y z
      · have := full_inv (m := m) (A := A) hv; omega
      · rfl
    have hwe := HWV.out HVV.out
    have hspec := lines_spec HU1.out.sh.inv HPO.out HVV.out hwe (by omega) (hev.trans hz)
    rw [HAV.out, HCA.out] at hspec
    have hn2 : 2 ≤ wn := by
      obtain ⟨a, c, d, h1, h2, h3, h4, h5, _⟩ := vldB_nat HVV.out
      have := wdN_bd (r := x.toNat) (d := y.toNat) (by omega) (by omega)
      omega
    have hab : av ≤ 8192 := by
      have h := (choose_ok HU1.out.sh.inv HU1.out.ok wn).1
      have hV : m.alV A x y z = (m.choose A wn).1 := by unfold HM.alV; rw [if_pos HVV.out, hwe]
      omega
    have HSPEC := hid hspec
    obtain ⟨f1, hf1⟩ : ∃ r, av / 8 = r := ⟨_, rfl⟩
    obtain ⟨l1, hl1⟩ : ∃ r, (av + wn - 1) / 8 = r := ⟨_, rfl⟩
    obtain ⟨k1, hk1⟩ : ∃ r, av / 64 = r := ⟨_, rfl⟩
    have d1 : Int.tdiv (av : Int) 8 = (f1 : Int) := by rw [Int.tdiv_eq_ediv_of_nonneg (by omega)]; omega
    have d2 : Int.tdiv ((av : Int) + (wn : Int) - 1) 8 = (l1 : Int) := by rw [Int.tdiv_eq_ediv_of_nonneg (by omega)]; omega
    have d3 : Int.tdiv (av : Int) 64 = (k1 : Int) := by rw [Int.tdiv_eq_ediv_of_nonneg (by omega)]; omega
    have v1 : IntKind.i64.wrap (f1 : Int) = (f1 : Int) := by rw [IntKind.wrap_i64]; omega
    have v2 : IntKind.i64.wrap (l1 : Int) = (l1 : Int) := by rw [IntKind.wrap_i64]; omega
    have v3 : IntKind.i64.wrap (k1 : Int) = (k1 : Int) := by rw [IntKind.wrap_i64]; omega
    have tl : decide ((f1 : Int) + 1 < (l1 : Int)) = false := decide_eq_false (by omega)
    have tln : decide (f1 + 1 < l1) = false := decide_eq_false (by omega)
    have HF1 := hid hf1
    have HL1 := hid hl1
    have HK1 := hid hk1
    have hfb : f1 ≤ 1024 := by omega
    have hlb : l1 ≤ 1100 := by omega
    have hkb : k1 ≤ 128 := by omega
    have hw8 : wn ≤ 8 := by omega
    clear hev hav hca hspec hz hwe hf1 hl1 hk1 h8
    go_wp2_with (first
      | (go_at_call 37; refine (words_k HU1.out HW.out).mono ?_; rintro e w2 ⟨rfl, U2, K2⟩; have HU2 := hid U2; have p0 := cell_kp U2.kp B0.out; have p1 := cell_kp U2.kp B1.out; have p2 := cell_kp U2.kp B2.out; clear U2 K2)
      | (go_at_call 31; refine (cursor_k HU2.out).mono ?_; rintro e w3 ⟨rfl, K3⟩; rw [HCA.out]; have HU3 := hid (HU2.out.step' K3); clear K3)
      | (go_at_call 14; refine (h_clone HU3.out.sh).mono ?_; rintro e w4 ⟨c, rfl, S4, K4, N4⟩; have HS4 := hid S4; have HN4 := hid N4; have HU4 := hid (HU3.out.step' K4); have o0 := cell_kp (HU3.out.step' K4).kp B0.out; have o1 := cell_kp (HU3.out.step' K4).kp B1.out; have o2 := cell_kp (HU3.out.step' K4).kp B2.out; clear S4 K4 N4)
      | (go_at_call 32; refine (alloc_k HU4.out x y z hq9).mono ?_; rintro e w7 ⟨rfl, U7, K7⟩; rw [HEV.out, HAV.out]; have HU7 := hid U7; have r0 := cell_kp U7.kp B0.out; have r1 := cell_kp U7.kp B1.out; have r2 := cell_kp U7.kp B2.out; have HSC := hid (HS4.out.kp K7 (fun x hx hm => by have := HN4.out x hx; have := HU3.out.bl x hm; omega)); clear U7 K7))
    by_cases hac : av = ca
    · have ta : ((av : Int) == (ca : Int)) = true := beq_iff_eq.2 (by omega)
      have tan : (av == ca) = true := beq_iff_eq.2 hac
      clear hac
      go_wp2_with (first
        | (go_at_call 37; refine (words_k HU7.out HW.out).mono ?_; rintro e w8 ⟨rfl, U8, K8⟩; have HU8 := hid U8; have KCH := K8; clear U8 K8)
        | (go_at_call 20; refine (al_alive_q HU8.out.kp).mono ?_; rintro e wa ⟨rfl, Ka⟩; have HKA := hid (HK0.out.chain Ka); clear Ka))
      go_ret
      exact ⟨rfl, HKA.out⟩
    · have ta : ((av : Int) == (ca : Int)) = false := beq_eq_false_iff_ne.2 (by omega)
      have tan : (av == ca) = false := beq_eq_false_iff_ne.2 hac
      obtain ⟨h80, hline⟩ : av % 8 = 0 ∧ (m.lineL ((k1 : Nat) : Int) = [] ∨ (m.lineL ((k1 : Nat) : Int)).getD (f1 % 8) false = false) := by
        rcases HSPEC.out with h | ⟨h1, h2⟩
        · exact absurd h hac
        · rw [HK1.out, HF1.out] at h2
          exact ⟨h1, h2⟩
      have hfl : l1 = f1 := by have := HF1.out; have := HL1.out; omega
      subst hfl
      have tm8 : Int.tmod (av : Int) 8 = 0 := by rw [Int.tmod_eq_emod_of_nonneg (by omega)]; omega
      have HLI := hid hline
      clear hac h80 hline HSPEC
      have hll := lineL_len m (k1 : Int)
      go_wp2_with (first
        | (go_at_call 37; refine (words_k HU7.out HW.out).mono ?_; rintro e w8 ⟨rfl, U8, K8⟩; have HU8 := hid U8; have KCH := K8; clear U8 K8)
        | (go_at_call 39; refine (lines_k (HSC.out.k0 KCH) (k1 : Int)).mono ?_; rintro e w9 ⟨Al, cl, rfl, hcl, K9⟩; have HCL := hid hcl; have HU9 := hid (HU8.out.step' K9); clear hcl K9))
      go_loopw [21] (fun c wr => ∃ j : Nat, l1 ≤ j ∧ j ≤ l1 + 1 ∧ c = .int .i64 (j : Int) ∧ LV w0 wr b (q + 1) (m.alM A x y z) g (m.alA A x y z) ∧ Kp [] w9 wr) (fun c _ => l1 + 1 - (intOf c).toNat)
      case atStart => exact ⟨l1, by omega, by omega, rfl, HU9.out, Kp.refl _ _⟩
      case round =>
        rename World => wr
        obtain ⟨j, hj1, hj2, rfl, U, K⟩ := hrel
        have HU := hid U
        have HK := hid K
        clear U K
        by_cases hjl : j ≤ l1
        · obtain rfl : j = l1 := by omega
          have tj : decide ((j : Int) ≤ (j : Int)) = true := decide_eq_true (by omega)
          have tjn : decide (j ≤ j) = true := decide_eq_true (Nat.le_refl _)
          by_cases hl0 : (m.lineL (k1 : Int)).length = 0
          · have tz : decide ((0 : Int) < ((m.lineL (k1 : Int)).length : Int)) = false := decide_eq_false (by omega)
            have tzn : decide (0 < (m.lineL (k1 : Int)).length) = false := decide_eq_false (by omega)
            go_wp2
            go_roundw
            case rel => exact ⟨j + 1, by omega, by omega, by go_num, HU.out, HK.out⟩
            case measure => simp [intOf] <;> omega
          · have tz : decide ((0 : Int) < ((m.lineL (k1 : Int)).length : Int)) = true := decide_eq_true (by omega)
            have tzn : decide (0 < (m.lineL (k1 : Int)).length) = true := decide_eq_true (by omega)
            obtain ⟨i8, hi8⟩ : ∃ r, j % 8 = r := ⟨_, rfl⟩
            have tm : Int.tmod (j : Int) 8 = (i8 : Int) := by rw [Int.tmod_eq_emod_of_nonneg (by omega)]; omega
            have vm : IntKind.i64.wrap (i8 : Int) = (i8 : Int) := by rw [IntKind.wrap_i64]; omega
            have hlen8 : (m.lineL (k1 : Int)).length = 8 := by
              have hl00 := hl0
              unfold HM.lineL at hl00 ⊢
              split
              · exact lnL_len _ _
              · rename_i hh
                rw [if_neg hh] at hl00
                exact absurd rfl hl00
            have hi9 : i8 < (m.lineL (k1 : Int)).length := by omega
            have hii : (i8 : Int) < ((m.lineL (k1 : Int)).length : Int) := by omega
            obtain ⟨gg, rfl, s0⟩ := HCL.out i8 hi9
            have hfa : (m.lineL (k1 : Int)).getD i8 false = false := by
              rcases HLI.out with h | h
              · rw [h] at hl0; exact absurd rfl hl0
              · rw [hi8] at h; exact h
            rw [hfa] at s0
            have t0 := cell_kp HK.out s0
            generalize (m.lineL (k1 : Int)).length = ll at *
            clear s0 hfa hi8 hl0
            go_wp2
            go_roundw
            case rel => exact ⟨j + 1, by omega, by omega, by go_num, HU.out, HK.out⟩
            case measure => simp [intOf] <;> omega
        · obtain rfl : j = l1 + 1 := by omega
          have tj : decide (((l1 + 1 : Nat) : Int) ≤ (l1 : Int)) = false := decide_eq_false (by omega)
          have tjn : decide (l1 + 1 ≤ l1) = false := decide_eq_false (by omega)
          go_wp2_with (go_at_call 20; refine (al_alive_q HU.out.kp).mono ?_; rintro e wa ⟨rfl, Ka⟩; have HKA := hid (HK0.out.chain Ka); clear Ka)
          go_ret
          exact ⟨rfl, HKA.out⟩
  · have te : (ev != 0) = true := bne_iff_ne.2 hz
    clear hev hav hca hz h8
    go_wp2_with (first
      | (go_at_call 37; refine (words_k HU1.out HW.out).mono ?_; rintro e w2 ⟨rfl, U2, K2⟩; have HU2 := hid U2; have p0 := cell_kp U2.kp B0.out; have p1 := cell_kp U2.kp B1.out; have p2 := cell_kp U2.kp B2.out; clear U2 K2)
      | (go_at_call 31; refine (cursor_k HU2.out).mono ?_; rintro e w3 ⟨rfl, K3⟩; rw [HCA.out]; have HU3 := hid (HU2.out.step' K3); clear K3)
      | (go_at_call 14; refine (h_clone HU3.out.sh).mono ?_; rintro e w4 ⟨c, rfl, S4, K4, N4⟩; have HS4 := hid S4; have HN4 := hid N4; have HU4 := hid (HU3.out.step' K4); have o0 := cell_kp (HU3.out.step' K4).kp B0.out; have o1 := cell_kp (HU3.out.step' K4).kp B1.out; have o2 := cell_kp (HU3.out.step' K4).kp B2.out; clear S4 K4 N4)
      | (go_at_call 32; refine (alloc_k HU4.out x y z hq9).mono ?_; rintro e w7 ⟨rfl, U7, K7⟩; rw [HEV.out, HAV.out]; have HU7 := hid U7; have r0 := cell_kp U7.kp B0.out; have r1 := cell_kp U7.kp B1.out; have r2 := cell_kp U7.kp B2.out; have HSC := hid (HS4.out.kp K7 (fun x hx hm => by have := HN4.out x hx; have := HU3.out.bl x hm; omega)); clear U7 K7)
      | (go_at_call 20; refine (al_alive_q HU7.out.kp).mono ?_; rintro e wa ⟨rfl, Ka⟩; have HKA := hid (HK0.out.chain Ka); clear Ka))
    go_ret
    exact ⟨rfl, HKA.out⟩
end
end Go.Proofs.YtmkmnlmfpddjkaaGreat
