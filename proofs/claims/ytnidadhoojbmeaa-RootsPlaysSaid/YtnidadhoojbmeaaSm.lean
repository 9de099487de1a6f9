/-
  The contract of the document's roots' Replace where it replaces. Conditions: those that stand in each theorem.
-/
import Derived.Test.YtnidadhoojbmeaaSl
import Derived.Deep.RegionHeld3
namespace Go.Proofs.Ytnidadhoojbmeaa
set_option linter.unusedVariables false
set_option linter.unusedSimpArgs false
open Go.RowKit Go.Deep Go.Maps

section
variable {w w' W : World} {b : TB} {t : RT}
theorem IsO.at_ {T : List Nat} {A : Option Addr} {n c : Nat} {zs : List Int} (h : IsO T w (.slice A n c) zs) {i : Nat} (hi : i < zs.length) : ∃ g o, A = some ⟨g, o, none⟩ ∧ g ∉ T ∧ w.cell? ⟨g, o + i, none⟩ = some (.int .i64 (zs.getD i 0)) := by
  obtain ⟨A', c', e, _, h2⟩ := h
  injection e with e1
  subst e1
  exact h2 i hi
theorem take_snoc_at {l : List Pl} {i : Nat} (h : i < l.length) (f tt : List Int) (t : RT) : t.reps f tt (l.take (i + 1)) = RT.rep1 f tt (t.reps f tt (l.take i)) (l.getD i ⟨0, 0, 0⟩) := by
  rw [take_getD h, reps_snoc]
theorem like_reps {t : RT} (ok : t.Ok) {f tt : List Int} (hl : f.length = tt.length) (hp : posB tt = true) (l : List Pl) (hm : ∀ p ∈ l, t.at_ p ≠ 0) : t.like (t.reps f tt l).1 := by
  have h : ∀ (l : List Pl) (s : RT × Nat), t.like s.1 → (∀ p ∈ l, t.at_ p ≠ 0) → t.like (l.foldl (RT.rep1 f tt) s).1 := by
    intro l
    induction l with
    | nil => exact fun s h _ => h
    | cons p l ih => exact fun s h hm => ih _ (like_rep1 hl hp h (hm p (by simp))) (fun q hq => hm q (by simp [hq]))
  exact h l (t, 0) t.like_refl hm
set_option maxRecDepth 100000 in
set_option maxHeartbeats 4000000 in
theorem t_replace (T : TR w b t) {f tt : List Int} {vf vt : Value} (hf : IsO b.all w vf f) (ht : IsO b.all w vt tt) (hgood : repB f tt = true) :
    Calls Try.prog 30 #[.pointer (some ⟨b.g, 0, none⟩), vf, vt] w fun e w' => e = .returned (.tuple #[.int .i64 ((t.reps f tt t.xs).2 : Int), .int .i64 0]) ∧ TR w' b (t.reps f tt t.xs).1 ∧ Kp b.all w w' := by
  have HT := hid T
  have HG := hid hgood
  have hgp := hgood
  unfold repB at hgp
  simp only [Bool.and_eq_true, decide_eq_true_eq] at hgp
  obtain ⟨⟨⟨hl, hpf⟩, hpt⟩, hri⟩ := hgp
  have HL := hid hl
  have HRI := hid hri
  have HPT := hid hpt
  have HFO := hid hf
  have HTO := hid ht
  obtain ⟨Af, cf, rfl, hf1, hfa⟩ := hf
  obtain ⟨At, ct, rfl, ht1, hta⟩ := ht
  have HF := hid hfa
  have HTT := hid hta
  unfold maxLen at hf1 ht1
  have hne : (f.length != tt.length) = false := bne_eq_false_iff_eq.2 hl
  have hne2 : ((f.length : Int) != (tt.length : Int)) = false := bne_eq_false_iff_eq.2 (by omega)
  have hne3 : ((f.length : Int) == (tt.length : Int)) = true := beq_iff_eq.2 (by omega)
  have hel := xs_le T.ok
  have HXE : Hid (∀ p ∈ t.xs, t.has (p.k : Int) (p.m : Int) (p.i : Int) = true ∧ t.at_ p ≠ 0) := fun p hp => mem_xs T.ok hp
  have HOK := hid T.ok
  clear T hgood hpf hpt hri hfa hta hl
  go_enter Try.func30, Try.ntmps30
  go_wp2_with (go_at_call 26; refine (t_made HT.out).mono ?_; rintro e w' ⟨rfl, n1, rfl⟩)
  go_loopw [8] (fun c wr => ∃ k n : Nat, k ≤ f.length ∧ c = .int .i64 (k : Int) ∧ wr = w.drewN n) (fun c _ => f.length - (intOf c).toNat)
  case atStart => exact ⟨0, n1, by omega, rfl, rfl⟩
  case round =>
    obtain ⟨k, n, hk, rfl, rfl⟩ := hrel
    by_cases hlt : k < f.length
    · obtain ⟨g, o, rfl, _, c0⟩ := HF.out k hlt
      obtain ⟨g', o', rfl, _, d0⟩ := HTT.out k (by have := HL.out; omega)
      have hlt2 : k < tt.length := by have := HL.out; omega
      obtain ⟨r1, r2, r3⟩ := repB_at HG.out hlt
      have HR3 := hid r3
      obtain ⟨x, hx⟩ : ∃ x, x = f.getD k 0 := ⟨_, rfl⟩
      obtain ⟨y, hy⟩ : ∃ x, x = tt.getD k 0 := ⟨_, rfl⟩
      rw [← hx] at c0 r1
      rw [← hy] at d0 r2
      have HX := hid hx
      have dx : decide (x ≤ 0) = false := decide_eq_false (by omega)
      have dy : decide (y ≤ 0) = false := decide_eq_false (by omega)
      clear hx hy r3
      rcases k with _ | k
      · have hz : decide ((0 : Int) < ((0 : Nat) : Int)) = false := by decide
        rw [Nat.add_zero] at c0 d0
        go_wp2
        go_quiet (fail)
        go_wp2
        go_roundw
        case rel => exact ⟨1, _, by omega, by go_num, rfl⟩
        case measure => simp [intOf]; omega
      · obtain ⟨g2, o2, e2, _, c2⟩ := HF.out k (by omega)
        obtain ⟨z, hz⟩ : ∃ x, x = f.getD k 0 := ⟨_, rfl⟩
        rw [← hz] at c2
        have hzx : ¬ x ≤ z := by
          rcases HR3.out with h1 | h1
          · omega
          · rw [Nat.add_sub_cancel, ← HX.out, ← hz] at h1; omega
        cases e2
        have q1 : (((k + 1 : Nat) : Int)) - 1 = (k : Int) := by omega
        have q3 : IntKind.i64.wrap (((k + 1 : Nat) : Int) - 1) = (k : Int) := by rw [IntKind.wrap_i64]; omega
        have q4 : IntKind.i64.wrap ((k : Int) + 1 - 1) = (k : Int) := by rw [IntKind.wrap_i64]; omega
        have q5 : (k : Int) + 1 - 1 = (k : Int) := by omega
        have q6 : (k : Int) < (f.length : Int) := by omega
        have q7 : (0 : Int) < (k : Int) + 1 := by omega
        have q8 : decide ((0 : Int) < (k : Int) + 1) = true := decide_eq_true (by omega)
        have dz : decide (x ≤ z) = false := decide_eq_false hzx
        clear hz
        go_wp2
        go_quiet (fail)
        go_wp2
        go_roundw
        case rel => exact ⟨k + 2, _, by omega, by go_num, rfl⟩
        case measure => simp [intOf]; omega
    · obtain rfl : k = f.length := by omega
      clear hlt hk
      go_wp2_with (fail)
      refine (t_places (HT.out.kp0 (Kp.draw _ _))).mono ?_
      rintro e w1 ⟨v1, rfl, own1, bel1⟩
      have K1 : Kp [] w w1 := (Kp.draw w _).chain (Kp.of_below bel1)
      have HK1 := hid K1
      have HT1 := hid (HT.out.kp0 K1)
      obtain ⟨A, cap, rfl, hA⟩ := own_far own1
      have HGN : Hid (∀ g, w.heap.size ≤ g → g ∉ b.all) := fun g hg hm => by have := HT.out.lt g hm; omega
      have HF1 := hid (HFO.out.keep K1 (by simp))
      have HT1O := hid (HTO.out.keep K1 (by simp))
      have HA := hid hA
      clear hA own1 bel1 K1
      go_wp2
      go_loopw [9, 11] (fun s9 c wr => ∃ i : Nat, i ≤ t.xs.length ∧ c = .int .i64 (i : Int) ∧ s9 = .int .i64 ((t.reps f tt (t.xs.take i)).2 : Int) ∧ TR wr b (t.reps f tt (t.xs.take i)).1 ∧ Kp b.all w1 wr) (fun _ c _ => t.xs.length - (intOf c).toNat)
      case atStart => exact ⟨0, by omega, rfl, rfl, HT1.out, Kp.refl _ _⟩
      case round =>
        obtain ⟨i, hi, rfl, rfl, Ti, Ki⟩ := hrel
        have HTi := hid Ti
        have HKi := hid Ki
        have HLK := hid (like_reps HOK.out HL.out HPT.out (t.xs.take i) (fun q hq => (HXE.out q (List.mem_of_mem_take hq)).2))
        have HLE : Hid ((t.reps f tt (t.xs.take i)).2 ≤ 384) := by
          have h1 := reps_le t f tt (t.xs.take i)
          have h2 : (t.xs.take i).length ≤ i := List.length_take_le _ _
          show _ ≤ _
          omega
        clear Ti Ki
        by_cases hlt : i < t.xs.length
        · obtain ⟨gl, rfl, hgl, q0, q1, q2⟩ := HA.out i hlt
          have HSN := hid (take_snoc_at hlt f tt t)
          have HHAS := hid (HXE.out (t.xs.getD i ⟨0, 0, 0⟩) (by rw [List.getD_eq_getElem?_getD, List.getElem?_eq_getElem hlt]; exact List.getElem_mem hlt)).1
          generalize t.xs.getD i ⟨0, 0, 0⟩ = p at q0 q1 q2 HHAS HSN
          generalize t.reps f tt (t.xs.take i) = s at HTi HLK HLE HSN
          have HPC : Hid (∀ W : World, Kp b.all w1 W → W.cell? ⟨gl, i * 3, none⟩ = some (.int .i64 (p.k : Int)) ∧ W.cell? ⟨gl, i * 3 + 1, none⟩ = some (.int .i64 (p.m : Int)) ∧ W.cell? ⟨gl, i * 3 + 2, none⟩ = some (.int .i64 (p.i : Int))) := fun W k => ⟨cell_kps k q0 (HGN.out gl hgl), cell_kps k q1 (HGN.out gl hgl), cell_kps k q2 (HGN.out gl hgl)⟩
          obtain ⟨d0, d1, d2⟩ := HPC.out _ HKi.out
          have HH2 : Hid (s.1.has (p.k : Int) (p.m : Int) (p.i : Int) = true) := by show _ = _; rw [like_has HLK.out]; exact HHAS.out
          have HGT := hid (t_get HTi.out (p.k : Int) (p.m : Int) (p.i : Int) HH2.out)
          have e0 : s.1.get (p.k : Int) (p.m : Int) (p.i : Int) = s.1.at_ p := rfl
          rw [e0] at HGT
          obtain ⟨y, hy⟩ : ∃ y, y = s.1.at_ p := ⟨_, rfl⟩
          rw [← hy] at HGT
          have HY := hid hy
          clear q0 q1 q2 e0 hy hgl
          go_wp2_with (go_at_call 47; refine HGT.out.mono ?_; rintro e w3 ⟨rfl, K3⟩; have HT3 := hid (HTi.out.kp0 K3); have HK3 := hid (HKi.out.chain K3); clear K3)
          go_loopw [9, 13] (fun s9 c wr2 => ∃ j : Nat, j ≤ f.length ∧ c = .int .i64 (j : Int) ∧ s9 = .int .i64 ((RT.mid f tt s p j).2 : Int) ∧ TR wr2 b (RT.mid f tt s p j).1 ∧ Kp b.all w1 wr2) (fun _ c _ => f.length - (intOf c).toNat)
          case atStart => exact ⟨0, by omega, rfl, by rw [mid_zero], by rw [mid_zero]; exact HT3.out, HK3.out⟩
          case round =>
            clear d0 d1 d2
            obtain ⟨j, hj, rfl, rfl, Tj, Kj⟩ := hrel
            have HTj := hid Tj
            have HKj := hid Kj
            clear Tj Kj
            by_cases hlt2 : j < f.length
            · obtain ⟨gf, of, rfl, _, c0⟩ := (HF1.out.keep HKj.out (fun x hx => hx)).at_ hlt2
              obtain ⟨x, hx⟩ : ∃ x, x = f.getD j 0 := ⟨_, rfl⟩
              rw [← hx] at c0
              have HX := hid hx
              clear hx
              by_cases hxy : y = x
              · have hd : (y == x) = true := beq_iff_eq.2 hxy
                have hjt : j < tt.length := by have := HL.out; omega
                obtain ⟨gt, ot, rfl, hgtn, c1⟩ := (HT1O.out.keep HKj.out (fun x hx => hx)).at_ hjt
                obtain ⟨z, hz⟩ : ∃ x, x = tt.getD j 0 := ⟨_, rfl⟩
                rw [← hz] at c1
                have hm := mid_hit (tt := tt) (p := p) (s := s) HRI.out hlt2 (by rw [← HX.out, ← hxy, HY.out])
                rw [← hz] at hm
                have HM := hid hm
                have hts := HTj.out
                rw [hm.1] at hts
                have HTS := hid hts
                rw [hm.1]
                obtain ⟨d0, d1, d2⟩ := HPC.out _ HKj.out
                have HZ := hid hz
                have HC1 := hid c1
                have HGTN := hid hgtn
                have hs2 := HLE.out
                clear hz hm hxy hts
                go_wp2
                have TD := HTS.out.kp0 (Kp.draw wr 1)
                have r0 : wr.drew.cell? ⟨gl, i * 3, none⟩ = some (.int .i64 (p.k : Int)) := d0
                have r1 : wr.drew.cell? ⟨gl, i * 3 + 1, none⟩ = some (.int .i64 (p.m : Int)) := d1
                have r2 : wr.drew.cell? ⟨gl, i * 3 + 2, none⟩ = some (.int .i64 (p.i : Int)) := d2
                have r3 : wr.drew.cell? ⟨gt, ot + j, none⟩ = some (.int .i64 z) := c1
                go_region_held3 (fun W => W.cell? ⟨gl, i * 3, none⟩ = some (.int .i64 (p.k : Int)) ∧ W.cell? ⟨gl, i * 3 + 1, none⟩ = some (.int .i64 (p.m : Int)) ∧ W.cell? ⟨gl, i * 3 + 2, none⟩ = some (.int .i64 (p.i : Int)) ∧ W.cell? ⟨gt, ot + j, none⟩ = some (.int .i64 z)) (go_keep)
                  (first
                    | (go_at_call 46; refine (t_set TD (p.k : Int) (p.m : Int) (p.i : Int) z HH2.out).mono ?_; rintro e w5 ⟨rfl, T5, K5⟩; have HT5 := hid T5; have HK5 := hid ((HKj.out.drewN 1).trans K5 (fun x hx => .inl hx) (fun x hx => .inl hx)); obtain ⟨s0, s1, s2⟩ := HPC.out _ HK5.out; have s3 := cell_kps K5 r3 HGTN.out; clear T5 K5))
                all_goals (
                  go_wp2
                  go_roundw
                  case rel => exact ⟨j + 1, by omega, by go_num, by rw [HM.out.2]; go_num, by rw [HM.out.2]; exact HT5.out, HK5.out⟩
                  case measure => simp [intOf]; omega)
              · have hd : (y == x) = false := beq_eq_false_iff_ne.2 hxy
                have HMS := hid (mid_same (tt := tt) (p := p) (s := s) hlt2 (by rw [← HX.out, ← HY.out]; exact Ne.symm hxy))
                clear hxy
                go_wp2
                go_roundw
                case rel => exact ⟨j + 1, by omega, by go_num, by rw [HMS.out], by rw [HMS.out]; exact HTj.out, HKj.out⟩
                case measure => simp [intOf]; omega
            · obtain rfl : j = f.length := by omega
              have hT := HTj.out
              rw [mid_end, ← HSN.out] at hT
              have HTE := hid hT
              rw [mid_end, ← HSN.out]
              clear hT hlt2 hj
              go_wp2
              go_roundw
              case rel => exact ⟨i + 1, by omega, by go_num, rfl, HTE.out, HKj.out⟩
              case measure => simp [intOf]; omega
        · obtain rfl : i = t.xs.length := by omega
          have hT := HTi.out
          rw [List.take_length] at hT
          have HTE := hid hT
          rw [List.take_length]
          clear hT hlt hi
          go_wp2
          go_ret2
          exact ⟨rfl, HTE.out, HK1.out.chain0 HKi.out⟩
end
end Go.Proofs.Ytnidadhoojbmeaa
