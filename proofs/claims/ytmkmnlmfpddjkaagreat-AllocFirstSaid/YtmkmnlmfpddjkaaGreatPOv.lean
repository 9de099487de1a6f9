/-
  The law AllocFull, walked. Conditions: those that stand in each theorem.
-/
import Derived.Test.YtmkmnlmfpddjkaaGreatPGOL
import Derived.Test.YtmkmnlmfpddjkaaGreatPOs
namespace Go.Proofs.YtmkmnlmfpddjkaaGreat
set_option linter.unusedVariables false
set_option linter.unusedSimpArgs false
open Go.RowKit Go.Deep Go.Maps

section
variable {w W V w0 : World} {b : HB} {m : HM} {q g B : Nat} {A : AS}
theorem alA_sp (m : HM) (A : AS) (x d k : Int) : (m.alA A x d k).sp = A.sp ∧ (m.alA A x d k).po = A.po := by
  unfold HM.alA
  split
  · unfold HM.choose
    repeat' split
    all_goals exact ⟨rfl, rfl⟩
  · exact ⟨rfl, rfl⟩
theorem pqP_sp (m : HM) (A : AS) (n1 k a s x y z : Int) : (pqP m A n1 k a s x y z).2.sp = A.sp ∧ (pqP m A n1 k a s x y z).2.po = A.po := by
  unfold pqP
  split
  · exact alA_sp m A x y z
  repeat' split
  all_goals exact ⟨rfl, rfl⟩
theorem Rch.sp {n s p : Nat} {m : HM} {A : AS} (h : Rch n s p m A) : A.sp = s ∧ A.po = p := by
  induction h with
  | new => exact ⟨rfl, rfl⟩
  | act h n1 k a c x y z _ _ ih => exact ⟨(pqP_sp _ _ _ _ _ _ _ _ _).1.trans ih.1, (pqP_sp _ _ _ _ _ _ _ _ _).2.trans ih.2⟩
theorem full_inv {x y z : Int} (hv : vldB x y z = false) : m.alE A x y z = 2 := by unfold HM.alE; rw [hv]; rfl
theorem alE_of {x y z : Int} (hv : vldB x y z = true) {n : Nat} (hn : wdN x.toNat y.toNat = n) : m.alE A x y z = if (m.choose A n).1 = 0 then 6 else 0 := by unfold HM.alE; rw [if_pos hv, hn]
theorem full_large {x y z : Int} (hv : vldB x y z = true) {n : Nat} (hn : wdN x.toNat y.toNat = n) (h32 : 32 < n) : (m.alE A x y z = 6 ∧ mostN m m.bl.length * 64 < n) ∨ (m.alE A x y z = 0 ∧ ¬ mostN m m.bl.length * 64 < n) := by
  rw [alE_of hv hn, show (m.choose A n).1 = m.freeB ((n + 63) / 64) by unfold HM.choose; rw [if_pos h32]]
  have h := freeB_iff (m := m) (c := (n + 63) / 64) (by omega)
  by_cases h0 : m.freeB ((n + 63) / 64) = 0
  · rw [if_pos h0]
    have := h.1 h0
    exact .inl ⟨rfl, by omega⟩
  · rw [if_neg h0]
    refine .inr ⟨rfl, fun h1 => h0 (h.2 (by omega))⟩
theorem orN_zero {a b : Nat} : orN a b = 0 ↔ a = 0 ∧ b = 0 := by
  unfold orN
  split
  · rename_i h; simp [h]
  · rename_i h; simp [h]
theorem full_fit (I : m.Inv) {x y z : Int} (hv : vldB x y z = true) {n : Nat} (hn : wdN x.toNat y.toNat = n) (h32 : ¬ 32 < n) (hp : A.po ≤ 2) : (m.alE A x y z = 6 ∧ mostN m m.bl.length = 0 ∧ anyF (rgL m A.sp m.bl.length) n = false) ∨ (m.alE A x y z = 0 ∧ (mostN m m.bl.length ≠ 0 ∨ anyF (rgL m A.sp m.bl.length) n = true)) := by
  have hf := freeB_iff (m := m) (c := 1) (by omega)
  have hl := lowG_iff I (s := A.sp) (n := n)
  have key : (m.choose A n).1 = 0 ↔ m.freeB 1 = 0 ∧ anyF (rgL m A.sp m.bl.length) n = false := by
    unfold HM.choose
    rw [if_neg h32]
    by_cases h0 : A.po = 0
    · rw [if_pos h0]
      simp only
      rw [orN_zero, hl]
      exact and_comm
    rw [if_neg h0]
    by_cases h1 : A.po = 1
    · rw [if_pos h1]
      simp only
      rw [orN_zero]
      rcases leastG_spec I A.sp n with ⟨h2, h3⟩ | ⟨a, _, h2, h3, _, h4, _⟩
      · rw [h2, h3]
        constructor
        · rintro ⟨_, h⟩; exact ⟨h, rfl⟩
        · rintro ⟨h, _⟩; exact ⟨rfl, h⟩
      · rw [h2, h4]
        constructor
        · rintro ⟨h, _⟩; omega
        · rintro ⟨_, h⟩; cases h
    rw [if_neg h1, if_pos (by omega)]
    simp only
    rw [orN_zero, orN_zero, hl]
    constructor
    · rintro ⟨⟨_, h⟩, h'⟩; exact ⟨h', h⟩
    · rintro ⟨h', h⟩
      refine ⟨⟨?_, h⟩, h'⟩
      rcases Nat.eq_zero_or_pos (m.lowG A.sp A.c n) with h2 | h2
      · exact h2
      · have := lowG_any I (s := A.sp) (f := A.c) (n := n) (Nat.ne_of_gt h2)
        rw [h] at this
        cases this
  rw [alE_of hv hn]
  by_cases h0 : (m.choose A n).1 = 0
  · rw [if_pos h0]
    obtain ⟨h1, h2⟩ := key.1 h0
    have := hf.1 h1
    exact .inl ⟨rfl, by omega, h2⟩
  · rw [if_neg h0]
    refine .inr ⟨rfl, ?_⟩
    by_cases h1 : mostN m m.bl.length = 0
    · refine .inr ?_
      rcases h2 : anyF (rgL m A.sp m.bl.length) n
      · exact absurd (key.2 ⟨hf.2 (by omega), h2⟩) h0
      · rfl
    · exact .inl h1
theorem full_bump {x y z : Int} (hv : vldB x y z = true) {n : Nat} (hn : wdN x.toNat y.toNat = n) (h32 : ¬ 32 < n) (hp : A.po = 3) : m.alE A x y z = 0 ∨ (m.alE A x y z = 6 ∧ m.alA A x y z = A ∧ (mostN m m.bl.length = 0 ∨ A.c + n ≤ A.l)) := by
  have hf := freeB_iff (m := m) (c := 1) (by omega)
  by_cases h0 : (m.choose A n).1 = 0
  · have he : m.alE A x y z = 6 := by rw [alE_of hv hn, if_pos h0]
    refine .inr ⟨he, by unfold HM.alA; rw [if_neg (by rw [he]; decide)], ?_⟩
    unfold HM.choose HM.bumpA at h0
    rw [if_neg h32, if_neg (by omega), if_neg (by omega), if_neg (by omega), if_pos hp] at h0
    simp only at h0
    by_cases hf2 : fitA (A.c, A.l) n = true
    · exact .inr (fits_iff.1 hf2)
    · rw [if_neg hf2] at h0
      have h1 : m.freeB 1 = 0 := h0
      have := hf.1 h1
      exact .inl (by omega)
  · exact .inl (by rw [alE_of hv hn, if_neg h0])
theorem wordsI_nat (x y z : Int) : ∃ n : Nat, wordsI x y z = (n : Int) ∧ n ≤ 218 ∧ (vldB x y z = true → wdN x.toNat y.toNat = n) ∧ (vldB x y z = false → n = 0) := by
  rcases hv : vldB x y z
  · exact ⟨0, by unfold wordsI; rw [hv]; rfl, by omega, (fun h => by cases h), fun _ => rfl⟩
  · obtain ⟨a, c, d, rfl, rfl, rfl, h1, h2, _⟩ := vldB_nat hv
    have := wdN_bd h1 h2
    exact ⟨wdN a c, by unfold wordsI; rw [if_pos hv, Int.toNat_natCast, Int.toNat_natCast], by omega, fun _ => rfl, (fun h => by cases h)⟩
theorem gaps_k (U : LV w0 W b q m g A) (s : Nat) :
    Calls Tryz.prog 38 #[.pointer (some ⟨b.g, 0, none⟩), .int .i64 (s : Int)] W fun e w' => ∃ (Ad : Option Addr) (cap : Nat), e = .returned (.slice Ad (rgL m s m.bl.length).length cap) ∧ (∀ i, i < (rgL m s m.bl.length).length → ∃ gb, Ad = some ⟨gb, 0, none⟩ ∧ w'.cell? ⟨gb, i * 2, none⟩ = some (.int .i64 (((rgL m s m.bl.length).getD i (0, 0)).1 : Int)) ∧ w'.cell? ⟨gb, i * 2 + 1, none⟩ = some (.int .i64 (((rgL m s m.bl.length).getD i (0, 0)).2 : Int))) ∧ LV w0 w' b q m g A ∧ Kp [] W w' := by
  refine (l_gaps U.sh s).mono ?_
  rintro e w' ⟨v, rfl, own, bel⟩
  obtain ⟨Ad, cap, rfl, h2⟩ := RunsAt.of_own own
  exact ⟨Ad, cap, rfl, h2, U.step' (Kp.of_below bel), Kp.of_below bel⟩
theorem words_k (U : LV w0 W b q m g A) {x y z : Int} {n : Nat} (hn : wordsI x y z = (n : Int)) :
    Calls Tryz.prog 37 #[.agg #[.int .i64 x, .int .i64 y, .int .i64 z]] W fun e w' => e = .returned (.int .i64 (n : Int)) ∧ LV w0 w' b q m g A ∧ Kp [] W w' := by
  refine (h_words x y z W).mono ?_
  rintro e w' ⟨rfl, K⟩
  rw [hn]
  exact ⟨rfl, U.step' K, K⟩
theorem valid_k (U : LV w0 W b q m g A) {x y z : Int} {v : Bool} (hv : vldB x y z = v) :
    Calls Tryz.prog 42 #[.agg #[.int .i64 x, .int .i64 y, .int .i64 z]] W fun e w' => e = .returned (.bool v) ∧ LV w0 w' b q m g A := by
  refine (h_valid x y z W).mono ?_
  rintro e w' ⟨rfl, K⟩
  rw [hv]
  exact ⟨rfl, U.step' K⟩
set_option maxRecDepth 100000 in
set_option maxHeartbeats 4000000 in
theorem full_ok (n s p : Int) (Ad : Option Addr) (len cap : Nat) (hA : QActs w Ad len) (x y z : Int) :
    Calls Tryz.prog 8 #[.int .i64 n, .int .i64 s, .int .i64 p, .slice Ad len cap, .agg #[.int .i64 x, .int .i64 y, .int .i64 z]] w (TrueP w) := by
  have HQA := hid (hA.kp0 (Kp.new w (.cells #[.int .i64 x, .int .i64 y, .int .i64 z] 33)))
  have hb := Blk.new w 33 #[.int .i64 x, .int .i64 y, .int .i64 z]
  have b0 := hb.cell 0
  have b1 := hb.cell 1
  have b2 := hb.cell 2
  have HK0 := hid (Kp.new w (.cells #[.int .i64 x, .int .i64 y, .int .i64 z] 33))
  clear hA hb
  go_enter Tryz.func8, Tryz.ntmps8
  go_wp2_with (fail)
  generalize w.alloc (.cells #[.int .i64 x, .int .i64 y, .int .i64 z] 33) = w0 at HQA b0 b1 b2 HK0 ⊢
  generalize w.heap.size = gb at b0 b1 b2 ⊢
  refine (made_any n s p Ad len cap HQA.out).mono ?_
  rintro e w1 (⟨rfl, K1⟩ | ⟨n', s', p', rfl, rfl, rfl, _, _, _, _, b, q, m, g, A, rfl, U1, hq, _, hR⟩)
  · have HK1 := hid K1
    clear K1
    go_wp2_with (go_at_call 20; refine (al_alive_q HK1.out).mono ?_; rintro e wa ⟨rfl, Ka⟩; have HKA := hid (HK0.out.chain Ka); clear Ka)
    go_ret
    exact ⟨rfl, HKA.out⟩
  have HU1 := hid U1
  obtain ⟨hsp, hpo⟩ := hR.sp
  have HSP := hid hsp
  have HPO := hid hpo
  obtain ⟨wn, hw, hwb, hwv, hwi⟩ := wordsI_nat x y z
  have HW := hid hw
  have HWV := hid hwv
  have HWI := hid hwi
  have c0 := cell_kp U1.kp b0
  have c1 := cell_kp U1.kp b1
  have c2 := cell_kp U1.kp b2
  have B0 := hid b0
  have B1 := hid b1
  have B2 := hid b2
  clear U1 hR hsp hpo hw hwv hwi b0 b1 b2
  go_wp2_with (fail)
  go_region_held3 (fun W => W.cell? ⟨gb, 0, none⟩ = some (.int .i64 x) ∧ W.cell? ⟨gb, 1, none⟩ = some (.int .i64 y) ∧ W.cell? ⟨gb, 2, none⟩ = some (.int .i64 z)) (go_keep)
    (first
      | (go_at_call 38; refine (gaps_k (HU1.out.step' (Kp.draw w1 1)) s').mono ?_; rintro e w2 ⟨Ag, cg, rfl, hg, U2, K2⟩; have HG := hid hg; have HU2 := hid U2; have d0 := cell_kp ((Kp.draw w1 1).chain K2) c0; have d1 := cell_kp ((Kp.draw w1 1).chain K2) c1; have d2 := cell_kp ((Kp.draw w1 1).chain K2) c2; clear hg U2 K2)
      | (go_at_call 37; refine (words_k HU2.out HW.out).mono ?_; rintro e w3 ⟨rfl, U3, K3⟩; have HU3 := hid U3; have HK3 := hid K3; have e0 := cell_kp K3 d0; have e1 := cell_kp K3 d1; have e2 := cell_kp K3 d2; clear U3 K3))
  have HGC : Hid (∀ i, i < (rgL m s' m.bl.length).length → ∃ gb, Ag = some ⟨gb, 0, none⟩ ∧ w3.cell? ⟨gb, i * 2 + 1, none⟩ = some (.int .i64 (((rgL m s' m.bl.length).getD i (0, 0)).2 : Int))) := fun i hi => by
    obtain ⟨gg, h1, h2, h3⟩ := HG.out i hi
    exact ⟨gg, h1, cell_kp HK3.out h3⟩
  have hN64 : m.bl.length ≤ 64 := HU3.out.sh.inv.len64
  have hN2 : 2 ≤ m.bl.length := HU3.out.sh.inv.len2
  have hll := rgL_len HU3.out.sh.inv s' m.bl.length
  generalize hN : m.bl.length = N at HG HGC hN64 hN2 hll ⊢
  have HN := hid hN
  generalize hL : rgL m s' N = L at HG HGC hll ⊢
  have HL := hid hL
  have HLB : Hid (∀ i, i < L.length → (L.getD i (0, 0)).2 ≤ 4096) := fun i hi => by
    have hm : L.getD i (0, 0) ∈ rgL m s' m.bl.length := by rw [HN.out, HL.out]; exact getD_mem hi
    have := (rgL_bd HU3.out.sh.inv hm).2
    omega
  clear HG HU2 d0 d1 d2 c0 c1 c2 HU1 hN hL
  go_wp2
  go_loopw [15, 16, 17] (fun r mo c wr => ∃ k : Nat, 1 ≤ k ∧ k ≤ N ∧ c = .int .i64 (k : Int) ∧ r = .int .i64 (frun m k : Int) ∧ mo = .int .i64 (mostN m k : Int) ∧ LV w0 wr b q m g A ∧ Kp [] w3 wr) (fun _ _ c _ => N - (intOf c).toNat)
  case atStart => exact ⟨1, by omega, by omega, rfl, rfl, by rw [mostN_one]; rfl, HU3.out, Kp.refl _ _⟩
  case round =>
    rename World => wr
    obtain ⟨k, hk1, hk, rfl, rfl, rfl, U, K⟩ := hrel
    have HU := hid U
    have HK := hid K
    clear U K
    obtain ⟨r, hr⟩ : ∃ r, frun m k = r := ⟨_, rfl⟩
    obtain ⟨mo, hmo⟩ : ∃ r, mostN m k = r := ⟨_, rfl⟩
    have hrb : r ≤ 64 := by
      obtain ⟨k0, rfl⟩ : ∃ k0, k = k0 + 1 := ⟨k - 1, by omega⟩
      have := frun_le m k0
      omega
    rw [hr, hmo]
    have HR := hid hr
    have HMO := hid hmo
    clear hr hmo
    by_cases hlt : k < N
    · have hlt2 : decide ((k : Int) < (N : Int)) = true := decide_eq_true (by omega)
      have hltn : decide (k < N) = true := decide_eq_true hlt
      obtain ⟨st, hst⟩ : ∃ v, m.st k = v := ⟨_, rfl⟩
      have HX : Hid ((if inB m.bl.length (k : Int) then (m.st (k : Int).toNat : Int) else -1) = (st : Int)) := by show _ = _; rw [stV_eq, if_pos (by rw [HN.out]; exact hlt), hst]
      by_cases h0 : st = 0
      · have t0 : ((st : Int) != 0) = false := by simp [h0]
        have hf1 : frun m (k + 1) = r + 1 := by rw [frun_free hk1 (by omega), HR.out]
        have HF1 := hid hf1
        by_cases hmx : mo < r + 1
        · have hm1 : mostN m (k + 1) = r + 1 := by show max (mostN m k) (frun m (k + 1)) = _; rw [HMO.out, hf1]; omega
          have HM1 := hid hm1
          have tm : decide ((mo : Int) < (r : Int) + 1) = true := decide_eq_true (by omega)
          have hmi : (mo : Int) < (r : Int) + 1 := by omega
          clear hst h0 hf1 hm1
          go_wp2_with (first
            | (go_at_call 40; refine (nb_k HU.out.sh).mono ?_; rintro e w5 ⟨rfl, K5⟩; rw [HN.out]; have HU5 := hid (HU.out.step' K5); have HK5 := hid (HK.out.chain K5); clear K5)
            | (go_at_call 41; refine (st_k HU5.out.sh _ HX).mono ?_; rintro e w6 ⟨rfl, K6⟩; have HU6 := hid (HU5.out.step' K6); have HK6 := hid (HK5.out.chain K6); clear K6))
          go_roundw
          case rel => exact ⟨k + 1, by omega, by omega, by go_num, by rw [HF1.out]; rfl, by rw [HM1.out]; rfl, HU6.out, HK6.out⟩
          case measure => simp [intOf]; omega
        · have hm1 : mostN m (k + 1) = mo := by show max (mostN m k) (frun m (k + 1)) = _; rw [HMO.out, hf1]; omega
          have HM1 := hid hm1
          have tm : decide ((mo : Int) < (r : Int) + 1) = false := decide_eq_false (by omega)
          have hmi : ¬ (mo : Int) < (r : Int) + 1 := by omega
          clear hst h0 hf1 hm1
          go_wp2_with (first
            | (go_at_call 40; refine (nb_k HU.out.sh).mono ?_; rintro e w5 ⟨rfl, K5⟩; rw [HN.out]; have HU5 := hid (HU.out.step' K5); have HK5 := hid (HK.out.chain K5); clear K5)
            | (go_at_call 41; refine (st_k HU5.out.sh _ HX).mono ?_; rintro e w6 ⟨rfl, K6⟩; have HU6 := hid (HU5.out.step' K6); have HK6 := hid (HK5.out.chain K6); clear K6))
          go_roundw
          case rel => exact ⟨k + 1, by omega, by omega, by go_num, by rw [HF1.out]; rfl, by rw [HM1.out], HU6.out, HK6.out⟩
          case measure => simp [intOf]; omega
      · have t0 : ((st : Int) != 0) = true := bne_iff_ne.2 (by omega)
        have hf1 : frun m (k + 1) = 0 := frun_used (by omega)
        have hm1 : mostN m (k + 1) = mo := by show max (mostN m k) (frun m (k + 1)) = _; rw [HMO.out, hf1]; omega
        have HF1 := hid hf1
        have HM1 := hid hm1
        have tm : decide ((mo : Int) < 0) = false := decide_eq_false (by omega)
        clear hst h0 hf1 hm1
        go_wp2_with (first
          | (go_at_call 40; refine (nb_k HU.out.sh).mono ?_; rintro e w5 ⟨rfl, K5⟩; rw [HN.out]; have HU5 := hid (HU.out.step' K5); have HK5 := hid (HK.out.chain K5); clear K5)
          | (go_at_call 41; refine (st_k HU5.out.sh _ HX).mono ?_; rintro e w6 ⟨rfl, K6⟩; have HU6 := hid (HU5.out.step' K6); have HK6 := hid (HK5.out.chain K6); clear K6))
        go_roundw
        case rel => exact ⟨k + 1, by omega, by omega, by go_num, by rw [HF1.out]; rfl, by rw [HM1.out], HU6.out, HK6.out⟩
        case measure => simp [intOf]; omega
    · obtain rfl : k = N := by omega
      have hlt2 : decide ((k : Int) < (k : Int)) = false := decide_eq_false (by omega)
      have hltn : decide (k < k) = false := decide_eq_false (by omega)
      go_wp2_with (go_at_call 40; refine (nb_k HU.out.sh).mono ?_; rintro e w5 ⟨rfl, K5⟩; rw [HN.out]; have HU5 := hid (HU.out.step' K5); have HK5 := hid (HK.out.chain K5); clear K5)
      clear HU HK
      go_loopw [18, 19] (fun f c wr => ∃ j : Nat, j ≤ L.length ∧ c = .int .i64 (j : Int) ∧ f = .bool (anyF (L.take j) wn) ∧ LV w0 wr b q m g A ∧ Kp [] w3 wr) (fun _ c _ => L.length - (intOf c).toNat)
      case atStart => exact ⟨0, by omega, rfl, rfl, HU5.out, HK5.out⟩
      case round =>
        rename World => ws
        obtain ⟨j, hj, rfl, rfl, U, K⟩ := hrel
        have HU := hid U
        have HK := hid K
        clear U K
        by_cases hlj : j < L.length
        · have hlj2 : decide ((j : Int) < (L.length : Int)) = true := decide_eq_true (by omega)
          have hljn : decide (j < L.length) = true := decide_eq_true hlj
          obtain ⟨gg, rfl, s1⟩ := HGC.out j hlj
          have t1 := cell_kp HK.out s1
          obtain ⟨yv, hyv⟩ : ∃ v, (L.getD j (0, 0)).2 = v := ⟨_, rfl⟩
          rw [hyv] at t1
          have HE : Hid (anyF (L.take (j + 1)) wn = (anyF (L.take j) wn || decide (wn ≤ yv))) := by show _ = _; rw [anyF_more hlj, hyv]
          have hyb : yv ≤ 4096 := by rw [← hyv]; exact HLB.out j hlj
          clear s1 hyv
          generalize anyF (L.take j) wn = f0 at HE ⊢
          rcases f0
          · by_cases hfy : wn ≤ yv
            · have ty : decide ((wn : Int) ≤ (yv : Int)) = true := decide_eq_true (by omega)
              have tyn : decide (wn ≤ yv) = true := decide_eq_true hfy
              have HE2 : Hid (anyF (L.take (j + 1)) wn = true) := by show _ = _; rw [HE.out, tyn]; rfl
              clear hfy
              go_wp2
              go_roundw
              case rel => exact ⟨j + 1, by omega, by go_num, by rw [HE2.out], HU.out, HK.out⟩
              case measure => simp [intOf]; omega
            · have ty : decide ((wn : Int) ≤ (yv : Int)) = false := decide_eq_false (by omega)
              have tyn : decide (wn ≤ yv) = false := decide_eq_false hfy
              have HE2 : Hid (anyF (L.take (j + 1)) wn = false) := by show _ = _; rw [HE.out, tyn]; rfl
              clear hfy
              go_wp2
              go_roundw
              case rel => exact ⟨j + 1, by omega, by go_num, by rw [HE2.out], HU.out, HK.out⟩
              case measure => simp [intOf]; omega
          · have HE2 : Hid (anyF (L.take (j + 1)) wn = true) := by show _ = _; rw [HE.out]; rfl
            go_wp2
            go_roundw
            case rel => exact ⟨j + 1, by omega, by go_num, by rw [HE2.out], HU.out, HK.out⟩
            case measure => simp [intOf]; omega
        · obtain rfl : j = L.length := by omega
          have hlj2 : decide ((L.length : Int) < (L.length : Int)) = false := decide_eq_false (by omega)
          have hljn : decide (L.length < L.length) = false := decide_eq_false (by omega)
          rw [List.take_length]
          have x0 := cell_kp HK.out e0
          have x1 := cell_kp HK.out e1
          have x2 := cell_kp HK.out e2
          have hmo := HMO.out
          obtain ⟨fi, hfi⟩ : ∃ r, anyF L wn = r := ⟨_, rfl⟩
          obtain ⟨ev, hev⟩ : ∃ r, m.alE A x y z = r := ⟨_, rfl⟩
          rw [hfi]
          have HEV := hid hev
          have hmb : mo ≤ 64 := by
            by_cases hz : mo = 0
            · omega
            · obtain ⟨k0, hk0, he0⟩ := mostN_at m k (by omega)
              have := frun_le m k0
              omega
          have HLG : Hid (mostN m m.bl.length = mo ∧ anyF (rgL m A.sp m.bl.length) wn = fi) := ⟨by rw [HN.out, hmo], by rw [HSP.out, HN.out, HL.out, hfi]⟩
          clear hmo hfi e0 e1 e2 HGC HLB HL
          rcases hv : vldB x y z
          · have HV := hid hv
            have he : ev = 2 := by rw [← HEV.out]; exact full_inv hv
            subst he
            clear hv hev
            go_wp2_with (first
              | (go_at_call 32; refine (HU.out.alloc x y z (by omega)).mono ?_; rintro e w7 ⟨rfl, U7⟩; rw [HEV.out]; have HU7 := hid U7; have y0 := cell_kp U7.kp B0.out; have y1 := cell_kp U7.kp B1.out; have y2 := cell_kp U7.kp B2.out; clear U7)
              | (go_at_call 42; refine (valid_k HU7.out HV.out).mono ?_; rintro e w8 ⟨rfl, U8⟩; have HU8 := hid U8; clear U8)
              | (go_at_call 20; refine (al_alive_q HU8.out.kp).mono ?_; rintro e wa ⟨rfl, Ka⟩; have HKA := hid (HK0.out.chain Ka); clear Ka))
            go_ret
            exact ⟨rfl, HKA.out⟩
          have HV := hid hv
          have hnn := HWV.out hv
          by_cases h32 : 32 < wn
          · have t32 : decide ((32 : Int) < (wn : Int)) = true := decide_eq_true (by omega)
            have t32n : decide (32 < wn) = true := decide_eq_true h32
            have hfl := full_large (m := m) (A := A) hv hnn h32
            rw [HLG.out.1, HEV.out] at hfl
            rcases hfl with ⟨rfl, h2⟩ | ⟨rfl, h2⟩
            · have tm : decide ((mo : Int) * 64 < (wn : Int)) = true := decide_eq_true (by omega)
              clear hv hev hnn h2 h32
              go_wp2_with (first
                | (go_at_call 32; refine (HU.out.alloc x y z (by omega)).mono ?_; rintro e w7 ⟨rfl, U7⟩; rw [HEV.out]; have HU7 := hid U7; have y0 := cell_kp U7.kp B0.out; have y1 := cell_kp U7.kp B1.out; have y2 := cell_kp U7.kp B2.out; clear U7)
                | (go_at_call 42; refine (valid_k HU7.out HV.out).mono ?_; rintro e w8 ⟨rfl, U8⟩; have HU8 := hid U8; clear U8)
                | (go_at_call 20; refine (al_alive_q HU8.out.kp).mono ?_; rintro e wa ⟨rfl, Ka⟩; have HKA := hid (HK0.out.chain Ka); clear Ka))
              go_ret
              exact ⟨rfl, HKA.out⟩
            · have tm : decide ((mo : Int) * 64 < (wn : Int)) = false := decide_eq_false (by omega)
              clear hv hev hnn h2 h32
              go_wp2_with (first
                | (go_at_call 32; refine (HU.out.alloc x y z (by omega)).mono ?_; rintro e w7 ⟨rfl, U7⟩; rw [HEV.out]; have HU7 := hid U7; have y0 := cell_kp U7.kp B0.out; have y1 := cell_kp U7.kp B1.out; have y2 := cell_kp U7.kp B2.out; clear U7)
                | (go_at_call 42; refine (valid_k HU7.out HV.out).mono ?_; rintro e w8 ⟨rfl, U8⟩; have HU8 := hid U8; clear U8)
                | (go_at_call 20; refine (al_alive_q HU8.out.kp).mono ?_; rintro e wa ⟨rfl, Ka⟩; have HKA := hid (HK0.out.chain Ka); clear Ka))
              go_ret
              exact ⟨rfl, HKA.out⟩
          have t32 : decide ((32 : Int) < (wn : Int)) = false := decide_eq_false (by omega)
          have t32n : decide (32 < wn) = false := decide_eq_false h32
          by_cases hp2 : p' ≤ 2
          · have hff := full_fit HU.out.sh.inv hv hnn h32 (by rw [HPO.out]; exact hp2)
            rw [HLG.out.1, HLG.out.2, HEV.out] at hff
            rcases hff with ⟨rfl, h2, rfl⟩ | ⟨rfl, h2⟩
            · have tm : ((mo : Int) == 0) = true := beq_iff_eq.2 (by omega)
              have hm0 : mo = 0 := h2
              subst hm0
              clear hv hev hnn h32
              by_cases hp0 : p' = 0
              · subst hp0
                go_wp2_with (first
                  | (go_at_call 32; refine (HU.out.alloc x y z (by omega)).mono ?_; rintro e w7 ⟨rfl, U7⟩; rw [HEV.out]; have HU7 := hid U7; have y0 := cell_kp U7.kp B0.out; have y1 := cell_kp U7.kp B1.out; have y2 := cell_kp U7.kp B2.out; clear U7)
                  | (go_at_call 42; refine (valid_k HU7.out HV.out).mono ?_; rintro e w8 ⟨rfl, U8⟩; have HU8 := hid U8; clear U8)
                  | (go_at_call 20; refine (al_alive_q HU8.out.kp).mono ?_; rintro e wa ⟨rfl, Ka⟩; have HKA := hid (HK0.out.chain Ka); clear Ka))
                go_ret
                exact ⟨rfl, HKA.out⟩
              by_cases hp1 : p' = 1
              · subst hp1
                go_wp2_with (first
                  | (go_at_call 32; refine (HU.out.alloc x y z (by omega)).mono ?_; rintro e w7 ⟨rfl, U7⟩; rw [HEV.out]; have HU7 := hid U7; have y0 := cell_kp U7.kp B0.out; have y1 := cell_kp U7.kp B1.out; have y2 := cell_kp U7.kp B2.out; clear U7)
                  | (go_at_call 42; refine (valid_k HU7.out HV.out).mono ?_; rintro e w8 ⟨rfl, U8⟩; have HU8 := hid U8; clear U8)
                  | (go_at_call 20; refine (al_alive_q HU8.out.kp).mono ?_; rintro e wa ⟨rfl, Ka⟩; have HKA := hid (HK0.out.chain Ka); clear Ka))
                go_ret
                exact ⟨rfl, HKA.out⟩
              obtain rfl : p' = 2 := by omega
              go_wp2_with (first
                | (go_at_call 32; refine (HU.out.alloc x y z (by omega)).mono ?_; rintro e w7 ⟨rfl, U7⟩; rw [HEV.out]; have HU7 := hid U7; have y0 := cell_kp U7.kp B0.out; have y1 := cell_kp U7.kp B1.out; have y2 := cell_kp U7.kp B2.out; clear U7)
                | (go_at_call 42; refine (valid_k HU7.out HV.out).mono ?_; rintro e w8 ⟨rfl, U8⟩; have HU8 := hid U8; clear U8)
                | (go_at_call 20; refine (al_alive_q HU8.out.kp).mono ?_; rintro e wa ⟨rfl, Ka⟩; have HKA := hid (HK0.out.chain Ka); clear Ka))
              go_ret
              exact ⟨rfl, HKA.out⟩
            · clear hv hev hnn h32
              by_cases hm0 : mo = 0
              · subst hm0
                have hfi : fi = true := by rcases h2 with h | h; exact absurd rfl h; exact h
                subst hfi
                by_cases hp0 : p' = 0
                · subst hp0
                  go_wp2_with (first
                    | (go_at_call 32; refine (HU.out.alloc x y z (by omega)).mono ?_; rintro e w7 ⟨rfl, U7⟩; rw [HEV.out]; have HU7 := hid U7; have y0 := cell_kp U7.kp B0.out; have y1 := cell_kp U7.kp B1.out; have y2 := cell_kp U7.kp B2.out; clear U7)
                    | (go_at_call 42; refine (valid_k HU7.out HV.out).mono ?_; rintro e w8 ⟨rfl, U8⟩; have HU8 := hid U8; clear U8)
                    | (go_at_call 20; refine (al_alive_q HU8.out.kp).mono ?_; rintro e wa ⟨rfl, Ka⟩; have HKA := hid (HK0.out.chain Ka); clear Ka))
                  go_ret
                  exact ⟨rfl, HKA.out⟩
                by_cases hp1 : p' = 1
                · subst hp1
                  go_wp2_with (first
                    | (go_at_call 32; refine (HU.out.alloc x y z (by omega)).mono ?_; rintro e w7 ⟨rfl, U7⟩; rw [HEV.out]; have HU7 := hid U7; have y0 := cell_kp U7.kp B0.out; have y1 := cell_kp U7.kp B1.out; have y2 := cell_kp U7.kp B2.out; clear U7)
                    | (go_at_call 42; refine (valid_k HU7.out HV.out).mono ?_; rintro e w8 ⟨rfl, U8⟩; have HU8 := hid U8; clear U8)
                    | (go_at_call 20; refine (al_alive_q HU8.out.kp).mono ?_; rintro e wa ⟨rfl, Ka⟩; have HKA := hid (HK0.out.chain Ka); clear Ka))
                  go_ret
                  exact ⟨rfl, HKA.out⟩
                obtain rfl : p' = 2 := by omega
                go_wp2_with (first
                  | (go_at_call 32; refine (HU.out.alloc x y z (by omega)).mono ?_; rintro e w7 ⟨rfl, U7⟩; rw [HEV.out]; have HU7 := hid U7; have y0 := cell_kp U7.kp B0.out; have y1 := cell_kp U7.kp B1.out; have y2 := cell_kp U7.kp B2.out; clear U7)
                  | (go_at_call 42; refine (valid_k HU7.out HV.out).mono ?_; rintro e w8 ⟨rfl, U8⟩; have HU8 := hid U8; clear U8)
                  | (go_at_call 20; refine (al_alive_q HU8.out.kp).mono ?_; rintro e wa ⟨rfl, Ka⟩; have HKA := hid (HK0.out.chain Ka); clear Ka))
                go_ret
                exact ⟨rfl, HKA.out⟩
              · have tm : ((mo : Int) == 0) = false := beq_eq_false_iff_ne.2 (by omega)
                have tmn : (mo == 0) = false := beq_eq_false_iff_ne.2 hm0
                clear h2
                by_cases hp0 : p' = 0
                · subst hp0
                  go_wp2_with (first
                    | (go_at_call 32; refine (HU.out.alloc x y z (by omega)).mono ?_; rintro e w7 ⟨rfl, U7⟩; rw [HEV.out]; have HU7 := hid U7; have y0 := cell_kp U7.kp B0.out; have y1 := cell_kp U7.kp B1.out; have y2 := cell_kp U7.kp B2.out; clear U7)
                    | (go_at_call 42; refine (valid_k HU7.out HV.out).mono ?_; rintro e w8 ⟨rfl, U8⟩; have HU8 := hid U8; clear U8)
                    | (go_at_call 20; refine (al_alive_q HU8.out.kp).mono ?_; rintro e wa ⟨rfl, Ka⟩; have HKA := hid (HK0.out.chain Ka); clear Ka))
                  go_ret
                  exact ⟨rfl, HKA.out⟩
                by_cases hp1 : p' = 1
                · subst hp1
                  go_wp2_with (first
                    | (go_at_call 32; refine (HU.out.alloc x y z (by omega)).mono ?_; rintro e w7 ⟨rfl, U7⟩; rw [HEV.out]; have HU7 := hid U7; have y0 := cell_kp U7.kp B0.out; have y1 := cell_kp U7.kp B1.out; have y2 := cell_kp U7.kp B2.out; clear U7)
                    | (go_at_call 42; refine (valid_k HU7.out HV.out).mono ?_; rintro e w8 ⟨rfl, U8⟩; have HU8 := hid U8; clear U8)
                    | (go_at_call 20; refine (al_alive_q HU8.out.kp).mono ?_; rintro e wa ⟨rfl, Ka⟩; have HKA := hid (HK0.out.chain Ka); clear Ka))
                  go_ret
                  exact ⟨rfl, HKA.out⟩
                obtain rfl : p' = 2 := by omega
                go_wp2_with (first
                  | (go_at_call 32; refine (HU.out.alloc x y z (by omega)).mono ?_; rintro e w7 ⟨rfl, U7⟩; rw [HEV.out]; have HU7 := hid U7; have y0 := cell_kp U7.kp B0.out; have y1 := cell_kp U7.kp B1.out; have y2 := cell_kp U7.kp B2.out; clear U7)
                  | (go_at_call 42; refine (valid_k HU7.out HV.out).mono ?_; rintro e w8 ⟨rfl, U8⟩; have HU8 := hid U8; clear U8)
                  | (go_at_call 20; refine (al_alive_q HU8.out.kp).mono ?_; rintro e wa ⟨rfl, Ka⟩; have HKA := hid (HK0.out.chain Ka); clear Ka))
                go_ret
                exact ⟨rfl, HKA.out⟩
          have q0 : ((p' : Int) == 0) = false := beq_eq_false_iff_ne.2 (by omega)
          have q1 : ((p' : Int) == 1) = false := beq_eq_false_iff_ne.2 (by omega)
          have q2 : ((p' : Int) == 2) = false := beq_eq_false_iff_ne.2 (by omega)
          by_cases hp3 : p' = 3
          · have q3 : ((p' : Int) == 3) = true := beq_iff_eq.2 (by omega)
            have hfb := full_bump (m := m) hv hnn h32 (show A.po = 3 by rw [HPO.out]; exact hp3)
            rw [HLG.out.1, HEV.out] at hfb
            have hcb : (m.alA A x y z).c ≤ 8192 := (alA_ok HU.out.sh.inv HU.out.ok x y z).c
            have hlb : (m.alA A x y z).l ≤ 8192 := (alA_ok HU.out.sh.inv HU.out.ok x y z).l
            rcases hfb with rfl | ⟨rfl, hAA, h2⟩
            · clear hv hev hnn h32 hp2
              go_wp2_with (first
                | (go_at_call 32; refine (HU.out.alloc x y z (by omega)).mono ?_; rintro e w7 ⟨rfl, U7⟩; rw [HEV.out]; have HU7 := hid U7; have y0 := cell_kp U7.kp B0.out; have y1 := cell_kp U7.kp B1.out; have y2 := cell_kp U7.kp B2.out; clear U7)
                | (go_at_call 42; refine (valid_k HU7.out HV.out).mono ?_; rintro e w8 ⟨rfl, U8⟩; have HU8 := hid U8; clear U8)
                | (go_at_call 31; refine (cursor_k HU8.out).mono ?_; rintro e w9 ⟨rfl, K9⟩; have HU9 := hid (HU8.out.step' K9); clear K9)
                | (go_at_call 20; refine (al_alive_q HU9.out.kp).mono ?_; rintro e wa ⟨rfl, Ka⟩; have HKA := hid (HK0.out.chain Ka); clear Ka))
              go_ret
              exact ⟨rfl, HKA.out⟩
            · by_cases hm0 : mo = 0
              · subst hm0
                clear hv hev hnn h32 hp2 h2 hAA
                go_wp2_with (first
                  | (go_at_call 32; refine (HU.out.alloc x y z (by omega)).mono ?_; rintro e w7 ⟨rfl, U7⟩; rw [HEV.out]; have HU7 := hid U7; have y0 := cell_kp U7.kp B0.out; have y1 := cell_kp U7.kp B1.out; have y2 := cell_kp U7.kp B2.out; clear U7)
                  | (go_at_call 42; refine (valid_k HU7.out HV.out).mono ?_; rintro e w8 ⟨rfl, U8⟩; have HU8 := hid U8; clear U8)
                  | (go_at_call 31; refine (cursor_k HU8.out).mono ?_; rintro e w9 ⟨rfl, K9⟩; have HU9 := hid (HU8.out.step' K9); clear K9)
                  | (go_at_call 20; refine (al_alive_q HU9.out.kp).mono ?_; rintro e wa ⟨rfl, Ka⟩; have HKA := hid (HK0.out.chain Ka); clear Ka))
                go_ret
                exact ⟨rfl, HKA.out⟩
              · have tm : ((mo : Int) == 0) = false := beq_eq_false_iff_ne.2 (by omega)
                have tmn : (mo == 0) = false := beq_eq_false_iff_ne.2 hm0
                have hcl : A.c + wn ≤ A.l := by rcases h2 with h | h; exact absurd h hm0; exact h
                have tcl : decide ((wn : Int) ≤ ((m.alA A x y z).l : Int) - ((m.alA A x y z).c : Int)) = true := by rw [hAA]; exact decide_eq_true (by omega)
                clear hv hev hnn h32 hp2 h2 hAA hcl
                go_wp2_with (first
                  | (go_at_call 32; refine (HU.out.alloc x y z (by omega)).mono ?_; rintro e w7 ⟨rfl, U7⟩; rw [HEV.out]; have HU7 := hid U7; have y0 := cell_kp U7.kp B0.out; have y1 := cell_kp U7.kp B1.out; have y2 := cell_kp U7.kp B2.out; clear U7)
                  | (go_at_call 42; refine (valid_k HU7.out HV.out).mono ?_; rintro e w8 ⟨rfl, U8⟩; have HU8 := hid U8; clear U8)
                  | (go_at_call 31; refine (cursor_k HU8.out).mono ?_; rintro e w9 ⟨rfl, K9⟩; have HU9 := hid (HU8.out.step' K9); clear K9)
                  | (go_at_call 20; refine (al_alive_q HU9.out.kp).mono ?_; rintro e wa ⟨rfl, Ka⟩; have HKA := hid (HK0.out.chain Ka); clear Ka))
                go_ret
                exact ⟨rfl, HKA.out⟩
          have q3 : ((p' : Int) == 3) = false := beq_eq_false_iff_ne.2 (by omega)
          clear hv hev hnn h32 hp2 hp3
          go_wp2_with (first
            | (go_at_call 32; refine (HU.out.alloc x y z (by omega)).mono ?_; rintro e w7 ⟨rfl, U7⟩; rw [HEV.out]; have HU7 := hid U7; have y0 := cell_kp U7.kp B0.out; have y1 := cell_kp U7.kp B1.out; have y2 := cell_kp U7.kp B2.out; clear U7)
            | (go_at_call 42; refine (valid_k HU7.out HV.out).mono ?_; rintro e w8 ⟨rfl, U8⟩; have HU8 := hid U8; clear U8)
            | (go_at_call 20; refine (al_alive_q HU8.out.kp).mono ?_; rintro e wa ⟨rfl, Ka⟩; have HKA := hid (HK0.out.chain Ka); clear Ka))
          go_ret
          exact ⟨rfl, HKA.out⟩
end
end Go.Proofs.YtmkmnlmfpddjkaaGreat
