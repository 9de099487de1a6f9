/-
  The law AllocFirst, walked. Conditions: those that stand in each theorem.
-/
import Derived.Test.YtmkmnlmfpddjkaaGreatPOv
namespace Go.Proofs.YtmkmnlmfpddjkaaGreat
set_option linter.unusedVariables false
set_option linter.unusedSimpArgs false
open Go.RowKit Go.Deep Go.Maps

theorem sep_lt {L : List (Nat × Nat)} (hp : ∀ i, i < L.length → 1 ≤ (L.getD i (0, 0)).2) (hs : ∀ i, i + 1 < L.length → (L.getD i (0, 0)).1 + (L.getD i (0, 0)).2 < (L.getD (i + 1) (0, 0)).1) : ∀ d i, i + d + 1 < L.length → (L.getD i (0, 0)).1 < (L.getD (i + d + 1) (0, 0)).1 := by
  intro d
  induction d with
  | zero => intro i hi; have := hs i hi; simp only [Nat.add_zero]; omega
  | succ d ih =>
    intro i hi
    have h1 := ih i (by omega)
    have h2 := hs (i + d + 1) (by omega)
    have h3 : i + (d + 1) + 1 = i + d + 1 + 1 := by omega
    rw [h3]
    omega
theorem gapL_pair {m : HM} (I : m.Inv) {k : Nat} (hk : k < m.bl.length) (hst : m.st k = 1) : (m.gapL (k : Int)).Pairwise (fun a b => a.1 < b.1) := by
  have G := gapsAt I hk hst
  rw [List.pairwise_iff_getElem]
  intro i j hi hj hij
  have h := sep_lt G.pos G.sep (j - i - 1) i (by omega)
  rw [show i + (j - i - 1) + 1 = j by omega, List.getD_eq_getElem?_getD, List.getD_eq_getElem?_getD, List.getElem?_eq_getElem hi, List.getElem?_eq_getElem hj] at h
  exact h
theorem rgL_pair {m : HM} (I : m.Inv) (s : Nat) : ∀ n, n ≤ m.bl.length → (rgL m s n).Pairwise (fun a b => a.1 < b.1) := by
  intro n
  induction n with
  | zero => intro _; simp [rgL, blkS]
  | succ n ih =>
    intro hn
    by_cases h : m.st n = 1 ∧ m.sp n = s
    · rw [rgL_yes h.1 h.2, List.pairwise_append]
      refine ⟨ih (by omega), gapL_pair I (by omega) h.1, fun a ha c hc => ?_⟩
      obtain ⟨k, hk, _, _, _, h2, h3, _⟩ := rgL_small I ha
      obtain ⟨i, hi, rfl⟩ := List.getElem_of_mem hc
      have hb := gap_bd I hi
      rw [List.getD_eq_getElem?_getD, List.getElem?_eq_getElem hi] at hb
      simp only [Option.getD_some] at hb
      omega
    · rw [rgL_no h]
      exact ih (by omega)
theorem rgL_lt {m : HM} (I : m.Inv) (s : Nat) {i j : Nat} (hij : i < j) (hj : j < (rgL m s m.bl.length).length) : ((rgL m s m.bl.length).getD i (0, 0)).1 < ((rgL m s m.bl.length).getD j (0, 0)).1 := by
  have h := List.pairwise_iff_getElem.1 (rgL_pair I s m.bl.length (Nat.le_refl _)) i j (by omega) hj hij
  rw [List.getD_eq_getElem?_getD, List.getD_eq_getElem?_getD, List.getElem?_eq_getElem (by omega), List.getElem?_eq_getElem hj]
  exact h
theorem find_pos {α : Type} {p : α → Bool} : ∀ {L : List α} {a : α}, L.find? p = some a → ∃ t, ∃ h : t < L.length, L[t] = a ∧ ∀ i (hi : i < t), p (L[i]'(by omega)) = false := by
  intro L
  induction L with
  | nil => intro a h; cases h
  | cons b L ih =>
    intro a h
    rw [List.find?_cons] at h
    rcases hb : p b
    · rw [hb] at h
      obtain ⟨t, ht, h1, h2⟩ := ih h
      refine ⟨t + 1, by simp; omega, by simpa using h1, fun i hi => ?_⟩
      cases i with
      | zero => exact hb
      | succ i => simpa using h2 i (by omega)
    · rw [hb] at h
      injection h with h
      exact ⟨0, by simp, h, fun i hi => by omega⟩
theorem low_pos {m : HM} (I : m.Inv) {s n : Nat} (h : m.lowG s 0 n ≠ 0) : ∃ t, t < (rgL m s m.bl.length).length ∧ ((rgL m s m.bl.length).getD t (0, 0)).1 = m.lowG s 0 n ∧ n ≤ ((rgL m s m.bl.length).getD t (0, 0)).2 ∧ ∀ i, i < t → ¬ n ≤ ((rgL m s m.bl.length).getD i (0, 0)).2 := by
  unfold HM.lowG firstFit at h ⊢
  rw [ars_map, List.find?_map] at h ⊢
  rcases hf : (rgL m s m.bl.length).find? ((fun a => fitA a n) ∘ areaOf 0) with _ | a
  · rw [hf] at h; exact absurd rfl h
  · obtain ⟨t, ht, h1, h2⟩ := find_pos hf
    have h3 := List.find?_some hf
    simp only [Function.comp, fit0, decide_eq_true_eq] at h3
    have e : (rgL m s m.bl.length).getD t (0, 0) = a := by rw [List.getD_eq_getElem?_getD, List.getElem?_eq_getElem ht]; exact h1
    refine ⟨t, ht, ?_, by rw [e]; exact h3, fun i hi => ?_⟩
    · rw [e]
      show a.1 = (areaOf 0 a).1
      unfold areaOf
      simp
    · have h4 := h2 i hi
      simp only [Function.comp, fit0, decide_eq_false_iff_not] at h4
      rw [List.getD_eq_getElem?_getD, List.getElem?_eq_getElem (by omega)]
      exact h4
theorem least_pos {n : Nat} : ∀ (L : List (Nat × Nat)) (x : Nat × Nat), (∀ a ∈ L, 64 ≤ a.1 ∧ a.2 ≤ 64) → ((L.map (areaOf 0)).foldl (leastStep n) x = x) ∨ ∃ t, t < L.length ∧ (L.map (areaOf 0)).foldl (leastStep n) x = L.getD t (0, 0) ∧ (L.getD t (0, 0)).2 < x.2 ∧ ∀ i, i < t → n ≤ (L.getD i (0, 0)).2 → (L.getD t (0, 0)).2 < (L.getD i (0, 0)).2 := by
  intro L
  induction L with
  | nil => intro x _; exact .inl rfl
  | cons b L ih =>
    intro x hL
    have hb := hL b (List.mem_cons_self ..)
    rw [List.map_cons, List.foldl_cons]
    have hstep : leastStep n x (areaOf 0 b) = if n ≤ b.2 ∧ b.2 < x.2 then b else x := by
      unfold leastStep
      rw [fit0]
      unfold areaOf
      simp only [Nat.max_zero, decide_eq_true_eq, show b.1 + b.2 - b.1 = b.2 by omega]
    rw [hstep]
    by_cases h : n ≤ b.2 ∧ b.2 < x.2
    · rw [if_pos h]
      rcases ih b (fun a ha => hL a (List.mem_cons_of_mem _ ha)) with h1 | ⟨t, ht, h1, h2, h3⟩
      · exact .inr ⟨0, by simp, by rw [h1]; rfl, h.2, fun i hi => by omega⟩
      · refine .inr ⟨t + 1, by simp; omega, by rw [h1]; rfl, ?_, fun i hi => ?_⟩
        · show (L.getD t (0, 0)).2 < x.2
          omega
        · cases i with
          | zero => intro _; exact h2
          | succ i => intro hn; exact h3 i (by omega) hn
    · rw [if_neg h]
      rcases ih x (fun a ha => hL a (List.mem_cons_of_mem _ ha)) with h1 | ⟨t, ht, h1, h2, h3⟩
      · exact .inl h1
      · refine .inr ⟨t + 1, by simp; omega, by rw [h1]; rfl, h2, fun i hi => ?_⟩
        cases i with
        | zero =>
          intro hn
          show (L.getD t (0, 0)).2 < b.2
          have hn : n ≤ b.2 := hn
          omega
        | succ i => intro hn; exact h3 i (by omega) hn
theorem least_at {m : HM} (I : m.Inv) {s n : Nat} (h : m.leastG s n ≠ 0) : ∃ t, t < (rgL m s m.bl.length).length ∧ ((rgL m s m.bl.length).getD t (0, 0)).1 = m.leastG s n ∧ n ≤ ((rgL m s m.bl.length).getD t (0, 0)).2 ∧ (∀ i, i < (rgL m s m.bl.length).length → n ≤ ((rgL m s m.bl.length).getD i (0, 0)).2 → ((rgL m s m.bl.length).getD t (0, 0)).2 ≤ ((rgL m s m.bl.length).getD i (0, 0)).2) ∧ ∀ i, i < t → n ≤ ((rgL m s m.bl.length).getD i (0, 0)).2 → ((rgL m s m.bl.length).getD t (0, 0)).2 < ((rgL m s m.bl.length).getD i (0, 0)).2 := by
  have hL : ∀ a ∈ rgL m s m.bl.length, 64 ≤ a.1 ∧ a.2 ≤ 64 := fun a ha => by
    obtain ⟨k, _, _, _, _, _, _, _⟩ := rgL_small I ha
    omega
  have hdef : m.leastG s n = (((rgL m s m.bl.length).map (areaOf 0)).foldl (leastStep n) (0, 65)).1 := by unfold HM.leastG; rw [ars_map]
  rcases least_pos (n := n) _ (0, 65) hL with h1 | ⟨t, ht, h1, h2, h3⟩
  · rw [hdef, h1] at h
    exact absurd rfl h
  · rcases least_fold (n := n) _ (0, 65) hL with ⟨g1, _⟩ | ⟨a, ha, g1, g2, g3, g4⟩
    · rw [hdef, g1] at h
      exact absurd rfl h
    · have e : (rgL m s m.bl.length).getD t (0, 0) = a := by rw [← h1, g1]
      refine ⟨t, ht, by rw [hdef, h1], by rw [e]; exact g2, fun i hi hn => ?_, h3⟩
      rw [e]
      exact g4 _ (getD_mem hi) hn
/-- The size of the gap that begins at an address, or less than 0. -/
def szN (L : List (Nat × Nat)) (av : Nat) : Nat → Int
  | 0 => -1
  | k + 1 => if (L.getD k (0, 0)).1 = av then ((L.getD k (0, 0)).2 : Int) else szN L av k
theorem szN_none {L : List (Nat × Nat)} {av : Nat} : ∀ k, (∀ i, i < k → (L.getD i (0, 0)).1 ≠ av) → szN L av k = -1 := by
  intro k
  induction k with
  | zero => intro _; rfl
  | succ k ih => intro h; unfold szN; rw [if_neg (h k (by omega))]; exact ih (fun i hi => h i (by omega))
theorem szN_some {L : List (Nat × Nat)} {av t : Nat} (ht : (L.getD t (0, 0)).1 = av) : ∀ k, t < k → (∀ i, i < k → i ≠ t → (L.getD i (0, 0)).1 ≠ av) → szN L av k = ((L.getD t (0, 0)).2 : Int) := by
  intro k
  induction k with
  | zero => intro h _; omega
  | succ k ih =>
    intro h hne
    unfold szN
    by_cases hk : k = t
    · subst hk; rw [if_pos ht]
    · rw [if_neg (hne k (by omega) hk)]; exact ih (by omega) (fun i hi => hne i (by omega))
/-- What First and Best choose. -/
theorem first_spec {m : HM} {A : AS} (I : m.Inv) {best : Bool} (hp : A.po = if best = true then 1 else 0) {x y z : Int} (hv : vldB x y z = true) {n : Nat} (hn : wdN x.toNat y.toNat = n) (h32 : ¬ 32 < n) (he : m.alE A x y z = 0) :
    (anyF (rgL m A.sp m.bl.length) n = false ∧ m.alV A x y z % 64 = 0 ∧ ∀ i, i < (rgL m A.sp m.bl.length).length → ((rgL m A.sp m.bl.length).getD i (0, 0)).1 ≠ m.alV A x y z) ∨
    (anyF (rgL m A.sp m.bl.length) n = true ∧ ∃ t, t < (rgL m A.sp m.bl.length).length ∧ ((rgL m A.sp m.bl.length).getD t (0, 0)).1 = m.alV A x y z ∧ n ≤ ((rgL m A.sp m.bl.length).getD t (0, 0)).2 ∧ ∀ i, i < (rgL m A.sp m.bl.length).length → n ≤ ((rgL m A.sp m.bl.length).getD i (0, 0)).2 → (best = false → ¬ ((rgL m A.sp m.bl.length).getD i (0, 0)).1 < m.alV A x y z) ∧ (best = true → ((rgL m A.sp m.bl.length).getD t (0, 0)).2 ≤ ((rgL m A.sp m.bl.length).getD i (0, 0)).2 ∧ (((rgL m A.sp m.bl.length).getD i (0, 0)).2 = ((rgL m A.sp m.bl.length).getD t (0, 0)).2 → ¬ ((rgL m A.sp m.bl.length).getD i (0, 0)).1 < m.alV A x y z))) := by
  have hV : m.alV A x y z = (m.choose A n).1 := by unfold HM.alV; rw [if_pos hv, hn]
  have hc0 : (m.choose A n).1 ≠ 0 := fun h => by
    rw [alE_of hv hn, if_pos h] at he
    cases he
  rw [hV]
  have hfree : ∀ {G : Nat}, G = 0 → (m.choose A n).1 = orN G (m.freeB 1) → (m.choose A n).1 % 64 = 0 ∧ ∀ i, i < (rgL m A.sp m.bl.length).length → ((rgL m A.sp m.bl.length).getD i (0, 0)).1 ≠ (m.choose A n).1 := by
    intro G hG hch
    have hch2 : (m.choose A n).1 = m.freeB 1 := by rw [hch]; unfold orN; rw [if_pos hG]
    rw [hch2] at hc0 ⊢
    obtain ⟨k, h1, h2, h3, _, _, h6⟩ := freeB_some (c := 1) (by omega) hc0
    refine ⟨freeB_mod (by omega), fun i hi hh => ?_⟩
    obtain ⟨k2, h7, h8, _, h9, h10, h11, _⟩ := rgL_small I (getD_mem hi)
    have : k2 = k := by omega
    subst this
    omega
  rcases best
  · have hp0 : A.po = 0 := hp
    have hch : (m.choose A n).1 = orN (m.lowG A.sp 0 n) (m.freeB 1) := by unfold HM.choose; rw [if_neg h32, if_pos hp0]
    by_cases h0 : m.lowG A.sp 0 n = 0
    · exact .inl ⟨(lowG_iff I).1 h0, hfree h0 hch⟩
    · obtain ⟨t, ht, h1, h2, h3⟩ := low_pos I h0
      have hch2 : (m.choose A n).1 = m.lowG A.sp 0 n := by rw [hch]; unfold orN; rw [if_neg h0]
      refine .inr ⟨lowG_any I h0, t, ht, by rw [hch2]; exact h1, h2, fun i hi hni => ⟨fun _ hlt => ?_, fun h => by cases h⟩⟩
      rw [hch2, ← h1] at hlt
      by_cases hit : i < t
      · exact h3 i hit hni
      · by_cases hie : i = t
        · subst hie; omega
        · have := rgL_lt I A.sp (i := t) (j := i) (by omega) hi
          omega
  · have hp1 : A.po = 1 := hp
    have hch : (m.choose A n).1 = orN (m.leastG A.sp n) (m.freeB 1) := by unfold HM.choose; rw [if_neg h32, if_neg (by omega), if_pos hp1]
    by_cases h0 : m.leastG A.sp n = 0
    · rcases leastG_spec I A.sp n with ⟨_, h⟩ | ⟨a, _, h2, h3, _⟩
      · exact .inl ⟨h, hfree h0 hch⟩
      · omega
    · obtain ⟨t, ht, h1, h2, h3, h4⟩ := least_at I h0
      have hch2 : (m.choose A n).1 = m.leastG A.sp n := by rw [hch]; unfold orN; rw [if_neg h0]
      refine .inr ⟨?_, t, ht, by rw [hch2]; exact h1, h2, fun i hi hni => ⟨fun h => by (cases h), fun _ => ⟨h3 i hi hni, fun heq hlt => ?_⟩⟩⟩
      · unfold anyF
        rw [List.any_eq_true]
        exact ⟨_, getD_mem ht, decide_eq_true h2⟩
      · rw [hch2, ← h1] at hlt
        by_cases hit : i < t
        · have := h4 i hit hni; omega
        · by_cases hie : i = t
          · subst hie; omega
          · have := rgL_lt I A.sp (i := t) (j := i) (by omega) hi
            omega
section
variable {w W V w0 : World} {b : HB} {m : HM} {q g B : Nat} {A : AS}
theorem gaps_f (U : LV w0 W b q m g A) (s : Nat) :
    Calls Tryz.prog 38 #[.pointer (some ⟨b.g, 0, none⟩), .int .i64 (s : Int)] W fun e w' => ∃ (Ad : Option Addr) (cap : Nat), e = .returned (.slice Ad (rgL m s m.bl.length).length cap) ∧ (∀ i, i < (rgL m s m.bl.length).length → ∃ gb, Ad = some ⟨gb, 0, none⟩ ∧ gb ∉ g :: b.all ∧ w'.cell? ⟨gb, i * 2, none⟩ = some (.int .i64 (((rgL m s m.bl.length).getD i (0, 0)).1 : Int)) ∧ w'.cell? ⟨gb, i * 2 + 1, none⟩ = some (.int .i64 (((rgL m s m.bl.length).getD i (0, 0)).2 : Int))) ∧ LV w0 w' b q m g A ∧ Kp [] W w' := by
  refine (l_gaps U.sh s).mono ?_
  rintro e w' ⟨v, rfl, own, bel⟩
  obtain ⟨Ad, cap, rfl, h2⟩ := RunsFar.of_own own
  refine ⟨Ad, cap, rfl, fun i hi => ?_, U.step' (Kp.of_below bel), Kp.of_below bel⟩
  obtain ⟨gg, h3, h4, h5⟩ := h2 i hi
  exact ⟨gg, h3, fun hm => by have := U.bl gg hm; omega, h5⟩
theorem alloc_k (U : LV w0 W b q m g A) (x y z : Int) (hq : q ≤ 900000000) :
    Calls Tryz.prog 32 #[.pointer (some ⟨g, 0, none⟩), .agg #[.int .i64 x, .int .i64 y, .int .i64 z]] W fun e w' => e = .returned (.tuple #[.int .i64 (m.alV A x y z : Int), .int .i64 (m.alE A x y z)]) ∧ LV w0 w' b (q + 1) (m.alM A x y z) g (m.alA A x y z) ∧ Kp (g :: b.all) W w' := by
  refine (a_alloc U.sh U.al U.ok U.gb x y z hq).mono ?_
  rintro e w' ⟨rfl, h1, h2, h3⟩
  refine ⟨rfl, ⟨h1, U.kp.trans h3 (U := []) (by simp) (fun z hz => .inr ?_), U.hb, h2, U.hg, U.gb, alA_ok U.sh.inv U.ok x y z⟩, h3⟩
  rcases List.mem_cons.1 hz with rfl | h
  · exact U.hg
  · exact U.hb z h
set_option maxRecDepth 100000 in
set_option maxHeartbeats 4000000 in
theorem first_ok_false (n s : Int) (Ad : Option Addr) (len cap : Nat) (hA : QActs w Ad len) (x y z : Int) :
    Calls Tryz.prog 6 #[.int .i64 n, .int .i64 s, .bool false, .slice Ad len cap, .agg #[.int .i64 x, .int .i64 y, .int .i64 z]] w (TrueP w) := by
  have HQA := hid (hA.kp0 (Kp.new w (.cells #[.int .i64 x, .int .i64 y, .int .i64 z] 33)))
  have hb := Blk.new w 33 #[.int .i64 x, .int .i64 y, .int .i64 z]
  have b0 := hb.cell 0
  have b1 := hb.cell 1
  have b2 := hb.cell 2
  have HK0 := hid (Kp.new w (.cells #[.int .i64 x, .int .i64 y, .int .i64 z] 33))
  clear hA hb
  go_enter Tryz.func6, Tryz.ntmps6
  go_wp2_with (fail)
  generalize w.alloc (.cells #[.int .i64 x, .int .i64 y, .int .i64 z] 33) = w0 at HQA b0 b1 b2 HK0 ⊢
  generalize w.heap.size = gb at b0 b1 b2 ⊢
  refine (made_any n s 0 Ad len cap HQA.out).mono ?_
  rintro e w1 (⟨rfl, K1⟩ | ⟨n', s', p', rfl, rfl, hp', _, _, _, _, b, q, m, g, A, rfl, U1, hq, _, hR⟩)
  · have HK1 := hid K1
    clear K1
    go_wp2_with (go_at_call 20; refine (al_alive_q HK1.out).mono ?_; rintro e wa ⟨rfl, Ka⟩; have HKA := hid (HK0.out.chain Ka); clear Ka)
    go_ret
    exact ⟨rfl, HKA.out⟩
  have HU1 := hid U1
  obtain ⟨hsp, hpo⟩ := hR.sp
  have HSP := hid hsp
  have HPO : Hid (A.po = if false = true then 1 else 0) := by show _ = _; rw [hpo]; simp; omega
  obtain ⟨wn, hw, hwb, hwv, hwi⟩ := wordsI_nat x y z
  have HW := hid hw
  have HWV := hid hwv
  have c0 := cell_kp U1.kp b0
  have c1 := cell_kp U1.kp b1
  have c2 := cell_kp U1.kp b2
  have B0 := hid b0
  have B1 := hid b1
  have B2 := hid b2
  clear U1 hR hsp hpo hw hwv hwi b0 b1 b2 hp'
  by_cases h32 : 32 < wn
  · have t32 : decide ((32 : Int) < (wn : Int)) = true := decide_eq_true (by omega)
    have t32n : decide (32 < wn) = true := decide_eq_true h32
    go_wp2_with (first
      | (go_at_call 37; refine (words_k HU1.out HW.out).mono ?_; rintro e w3 ⟨rfl, U3, K3⟩; have HU3 := hid U3; clear U3 K3)
      | (go_at_call 20; refine (al_alive_q HU3.out.kp).mono ?_; rintro e wa ⟨rfl, Ka⟩; have HKA := hid (HK0.out.chain Ka); clear Ka))
    go_ret
    exact ⟨rfl, HKA.out⟩
  have t32 : decide ((32 : Int) < (wn : Int)) = false := decide_eq_false (by omega)
  have t32n : decide (32 < wn) = false := decide_eq_false h32
  go_wp2_with (go_at_call 37; refine (words_k HU1.out HW.out).mono ?_; rintro e w4 ⟨rfl, U4, K4⟩; have HU4 := hid U4; have a0 := cell_kp K4 c0; have a1 := cell_kp K4 c1; have a2 := cell_kp K4 c2; clear U4 K4)
  clear HU1 c0 c1 c2
  go_region_held3 (fun W => W.cell? ⟨gb, 0, none⟩ = some (.int .i64 x) ∧ W.cell? ⟨gb, 1, none⟩ = some (.int .i64 y) ∧ W.cell? ⟨gb, 2, none⟩ = some (.int .i64 z)) (go_keep)
    (first
      | (go_at_call 38; refine (gaps_f (HU4.out.step' (Kp.draw w4 1)) s').mono ?_; rintro e w2 ⟨Ag, cg, rfl, hg, U2, K2⟩; have HG := hid hg; have HU2 := hid U2; have d0 := cell_kp ((Kp.draw w4 1).chain K2) a0; have d1 := cell_kp ((Kp.draw w4 1).chain K2) a1; have d2 := cell_kp ((Kp.draw w4 1).chain K2) a2; clear hg U2 K2)
      | (go_at_call 37; refine (words_k HU2.out HW.out).mono ?_; rintro e w3 ⟨rfl, U3, K3⟩; have HU3 := hid U3; have HK3 := hid K3; have e0 := cell_kp K3 d0; have e1 := cell_kp K3 d1; have e2 := cell_kp K3 d2; clear U3 K3))
  obtain ⟨ev, hev⟩ : ∃ r, m.alE A x y z = r := ⟨_, rfl⟩
  obtain ⟨av, hav⟩ : ∃ r, m.alV A x y z = r := ⟨_, rfl⟩
  have HEV := hid hev
  have HAV := hid hav
  have hq9 : q ≤ 900000000 := by omega
  by_cases hz : ev = 0
  · have te : (ev != 0) = false := by simp [hz]
    have HVV : Hid (vldB x y z = true) := by
      show _ = _
      rcases hv : vldB x y z
      · have := full_inv (m := m) (A := A) hv; omega
      · rfl
    have hspec := first_spec HU3.out.sh.inv (best := false) HPO.out HVV.out (HWV.out HVV.out) h32 (hev.trans hz)
    rw [HAV.out, HSP.out] at hspec
    have HGC : Hid (∀ i, i < (rgL m s' m.bl.length).length → ∃ gb, Ag = some ⟨gb, 0, none⟩ ∧ gb ∉ g :: b.all ∧ w3.cell? ⟨gb, i * 2, none⟩ = some (.int .i64 (((rgL m s' m.bl.length).getD i (0, 0)).1 : Int)) ∧ w3.cell? ⟨gb, i * 2 + 1, none⟩ = some (.int .i64 (((rgL m s' m.bl.length).getD i (0, 0)).2 : Int))) := fun i hi => by
      obtain ⟨gg, h1, hne, h2, h3⟩ := HG.out i hi
      exact ⟨gg, h1, hne, cell_kp HK3.out h2, cell_kp HK3.out h3⟩
    have hll := rgL_len HU3.out.sh.inv s' m.bl.length
    have hN64 : m.bl.length ≤ 64 := HU3.out.sh.inv.len64
    have HLB : Hid (∀ i, i < (rgL m s' m.bl.length).length → 64 ≤ ((rgL m s' m.bl.length).getD i (0, 0)).1 ∧ ((rgL m s' m.bl.length).getD i (0, 0)).1 + ((rgL m s' m.bl.length).getD i (0, 0)).2 ≤ 4096) := fun i hi => rgL_bd HU3.out.sh.inv (getD_mem hi)
    have HLT : Hid (∀ i j, i < j → j < (rgL m s' m.bl.length).length → ((rgL m s' m.bl.length).getD i (0, 0)).1 < ((rgL m s' m.bl.length).getD j (0, 0)).1) := fun i j h1 h2 => rgL_lt HU3.out.sh.inv s' h1 h2
    have hl9 : (rgL m s' m.bl.length).length ≤ 3000 := by omega
    generalize rgL m s' m.bl.length = L at HG HGC hspec HLB HLT hl9
    have HSPEC := hid hspec
    clear HG HU2 d0 d1 d2 a0 a1 a2 hev hav hspec hz hll hN64 h32
    go_wp2_with (go_at_call 32; refine (alloc_k HU3.out x y z hq9).mono ?_; rintro e w7 ⟨rfl, U7, K7⟩; rw [HEV.out, HAV.out]; have HU7 := hid U7; have HK7 := hid K7; clear U7 K7)
    go_loopw [18, 19, 20] (fun f sz c wr => ∃ j : Nat, j ≤ L.length ∧ c = .int .i64 (j : Int) ∧ f = .bool (anyF (L.take j) wn) ∧ sz = .int .i64 (szN L av j) ∧ LV w0 wr b (q + 1) (m.alM A x y z) g (m.alA A x y z) ∧ Kp [] w7 wr) (fun _ _ c _ => L.length - (intOf c).toNat)
    case atStart => exact ⟨0, by omega, rfl, rfl, rfl, HU7.out, Kp.refl _ _⟩
    case round =>
      rename World => ws
      obtain ⟨j, hj, rfl, rfl, rfl, U, K⟩ := hrel
      have HU := hid U
      have HK := hid K
      clear U K
      by_cases hlj : j < L.length
      · have hlj2 : decide ((j : Int) < (L.length : Int)) = true := decide_eq_true (by omega)
        have hljn : decide (j < L.length) = true := decide_eq_true hlj
        obtain ⟨gg, rfl, hne, s0, s1⟩ := HGC.out j hlj
        have t0 := cell_kp HK.out (cell_kpn HK7.out hne s0)
        have t1 := cell_kp HK.out (cell_kpn HK7.out hne s1)
        obtain ⟨xv, hxv⟩ : ∃ v, (L.getD j (0, 0)).1 = v := ⟨_, rfl⟩
        obtain ⟨yv, hyv⟩ : ∃ v, (L.getD j (0, 0)).2 = v := ⟨_, rfl⟩
        rw [hxv] at t0
        rw [hyv] at t1
        have hxyb := HLB.out j hlj
        rw [hxv, hyv] at hxyb
        have HE : Hid (anyF (L.take (j + 1)) wn = (anyF (L.take j) wn || decide (wn ≤ yv))) := by show _ = _; rw [anyF_more hlj, hyv]
        have HZ : Hid (szN L av (j + 1) = if xv = av then (yv : Int) else szN L av j) := by show _ = _; rw [← hxv, ← hyv]; rfl
        clear s0 s1 hxv hyv hne
        generalize anyF (L.take j) wn = f0 at HE ⊢
        generalize szN L av j = sz at HZ ⊢
        by_cases hxa : xv = av
        · have tx : ((xv : Int) == (av : Int)) = true := beq_iff_eq.2 (by omega)
          have txn : (xv == av) = true := beq_iff_eq.2 hxa
          have HZ2 : Hid (szN L av (j + 1) = (yv : Int)) := by show _ = _; rw [HZ.out, if_pos hxa]
          clear hxa
          rcases f0
          · by_cases hfy : wn ≤ yv
            · have ty : decide ((wn : Int) ≤ (yv : Int)) = true := decide_eq_true (by omega)
              have tyn : decide (wn ≤ yv) = true := decide_eq_true hfy
              have HE2 : Hid (anyF (L.take (j + 1)) wn = true) := by show _ = _; rw [HE.out, tyn]; rfl
              clear hfy
              go_wp2
              go_roundw
              case rel => exact ⟨j + 1, by omega, by go_num, by rw [HE2.out], by rw [HZ2.out], HU.out, HK.out⟩
              case measure => simp [intOf]; omega
            · have ty : decide ((wn : Int) ≤ (yv : Int)) = false := decide_eq_false (by omega)
              have tyn : decide (wn ≤ yv) = false := decide_eq_false hfy
              have HE2 : Hid (anyF (L.take (j + 1)) wn = false) := by show _ = _; rw [HE.out, tyn]; rfl
              clear hfy
              go_wp2
              go_roundw
              case rel => exact ⟨j + 1, by omega, by go_num, by rw [HE2.out], by rw [HZ2.out], HU.out, HK.out⟩
              case measure => simp [intOf]; omega
          · have HE2 : Hid (anyF (L.take (j + 1)) wn = true) := by show _ = _; rw [HE.out]; rfl
            go_wp2
            go_roundw
            case rel => exact ⟨j + 1, by omega, by go_num, by rw [HE2.out], by rw [HZ2.out], HU.out, HK.out⟩
            case measure => simp [intOf]; omega
        · have tx : ((xv : Int) == (av : Int)) = false := beq_eq_false_iff_ne.2 (by omega)
          have txn : (xv == av) = false := beq_eq_false_iff_ne.2 hxa
          have HZ2 : Hid (szN L av (j + 1) = sz) := by show _ = _; rw [HZ.out, if_neg hxa]
          clear hxa
          rcases f0
          · by_cases hfy : wn ≤ yv
            · have ty : decide ((wn : Int) ≤ (yv : Int)) = true := decide_eq_true (by omega)
              have tyn : decide (wn ≤ yv) = true := decide_eq_true hfy
              have HE2 : Hid (anyF (L.take (j + 1)) wn = true) := by show _ = _; rw [HE.out, tyn]; rfl
              clear hfy
              go_wp2
              go_roundw
              case rel => exact ⟨j + 1, by omega, by go_num, by rw [HE2.out], by rw [HZ2.out], HU.out, HK.out⟩
              case measure => simp [intOf]; omega
            · have ty : decide ((wn : Int) ≤ (yv : Int)) = false := decide_eq_false (by omega)
              have tyn : decide (wn ≤ yv) = false := decide_eq_false hfy
              have HE2 : Hid (anyF (L.take (j + 1)) wn = false) := by show _ = _; rw [HE.out, tyn]; rfl
              clear hfy
              go_wp2
              go_roundw
              case rel => exact ⟨j + 1, by omega, by go_num, by rw [HE2.out], by rw [HZ2.out], HU.out, HK.out⟩
              case measure => simp [intOf]; omega
          · have HE2 : Hid (anyF (L.take (j + 1)) wn = true) := by show _ = _; rw [HE.out]; rfl
            go_wp2
            go_roundw
            case rel => exact ⟨j + 1, by omega, by go_num, by rw [HE2.out], by rw [HZ2.out], HU.out, HK.out⟩
            case measure => simp [intOf]; omega
      · obtain rfl : j = L.length := by omega
        have hlj2 : decide ((L.length : Int) < (L.length : Int)) = false := decide_eq_false (by omega)
        have hljn : decide (L.length < L.length) = false := decide_eq_false (by omega)
        rw [List.take_length]
        rcases HSPEC.out with ⟨hf, h64, hno⟩ | ⟨hf, t, ht, hta, hnt, hsp2⟩
        · rw [hf, szN_none _ hno]
          have tr : Int.tmod (av : Int) 64 = 0 := by rw [Int.tmod_eq_emod_of_nonneg (by omega)]; omega
          clear hf h64 hno
          go_wp2_with (go_at_call 20; refine (al_alive_q HU.out.kp).mono ?_; rintro e wa ⟨rfl, Ka⟩; have HKA := hid (HK0.out.chain Ka); clear Ka)
          go_ret
          exact ⟨rfl, HKA.out⟩
        · obtain ⟨zv, hzv⟩ : ∃ v, (L.getD t (0, 0)).2 = v := ⟨_, rfl⟩
          rw [hf, szN_some hta _ ht (fun i hi hit => by
            rw [← hta]
            by_cases h : i < t
            · have := HLT.out i t h ht; omega
            · have := HLT.out t i (by omega) hi; omega), hzv]
          rw [hzv] at hnt
          have HSP2 : Hid (∀ i, i < L.length → wn ≤ (L.getD i (0, 0)).2 → (false = false → ¬ (L.getD i (0, 0)).1 < av) ∧ (false = true → zv ≤ (L.getD i (0, 0)).2 ∧ ((L.getD i (0, 0)).2 = zv → ¬ (L.getD i (0, 0)).1 < av))) := fun i hi hni => by
            have := hsp2 i hi hni
            rw [hzv] at this
            exact ⟨fun h => by first | (cases h; done) | exact this.1 (by first | trivial | rfl), fun h => by first | (cases h; done) | exact this.2 (by first | trivial | rfl)⟩
          have tfz : decide ((wn : Int) ≤ (zv : Int)) = true := decide_eq_true (by omega)
          have tfzn : decide (wn ≤ zv) = true := decide_eq_true hnt
          have hzb : zv ≤ 4096 := by have := HLB.out t ht; omega
          have HKW := hid HK.out
          have HUW := hid HU.out
          clear hf hta hsp2 hzv HK HU ht hnt HSPEC
          go_wp2
          go_loopw [21] (fun c wr => ∃ j : Nat, j ≤ L.length ∧ c = .int .i64 (j : Int) ∧ LV w0 wr b (q + 1) (m.alM A x y z) g (m.alA A x y z) ∧ Kp [] w7 wr) (fun c _ => L.length - (intOf c).toNat)
          case atStart => exact ⟨0, by omega, rfl, HUW.out, HKW.out⟩
          case round =>
            rename World => wt
            obtain ⟨j, hj, rfl, U, K⟩ := hrel
            have HU := hid U
            have HK := hid K
            clear U K
            by_cases hlj : j < L.length
            · have hlj2 : decide ((j : Int) < (L.length : Int)) = true := decide_eq_true (by omega)
              have hljn : decide (j < L.length) = true := decide_eq_true hlj
              obtain ⟨gg, rfl, hne, s0, s1⟩ := HGC.out j hlj
              have t0 := cell_kp HK.out (cell_kpn HK7.out hne s0)
              have t1 := cell_kp HK.out (cell_kpn HK7.out hne s1)
              obtain ⟨xv, hxv⟩ : ∃ v, (L.getD j (0, 0)).1 = v := ⟨_, rfl⟩
              obtain ⟨yv, hyv⟩ : ∃ v, (L.getD j (0, 0)).2 = v := ⟨_, rfl⟩
              rw [hxv] at t0
              rw [hyv] at t1
              have hxyb := HLB.out j hlj
              rw [hxv, hyv] at hxyb
              have HSJ := hid (HSP2.out j hlj)
              rw [hxv, hyv] at HSJ
              clear s0 s1 hxv hyv hne
              by_cases hny : wn ≤ yv
              · have hsj := HSJ.out hny
                have ty : decide ((wn : Int) ≤ (yv : Int)) = true := decide_eq_true (by omega)
                have tyn : decide (wn ≤ yv) = true := decide_eq_true hny
                have tx : decide ((xv : Int) < (av : Int)) = false := decide_eq_false (by have := hsj.1 (by first | trivial | rfl); omega)
                have txn : decide (xv < av) = false := decide_eq_false (hsj.1 (by first | trivial | rfl))
                clear hsj hny
                go_wp2
                go_roundw
                case rel => exact ⟨j + 1, by omega, by go_num, HU.out, HK.out⟩
                case measure => simp [intOf]; omega
              · have ty : decide ((wn : Int) ≤ (yv : Int)) = false := decide_eq_false (by omega)
                have tyn : decide (wn ≤ yv) = false := decide_eq_false hny
                clear hny
                go_wp2
                go_roundw
                case rel => exact ⟨j + 1, by omega, by go_num, HU.out, HK.out⟩
                case measure => simp [intOf]; omega
            · obtain rfl : j = L.length := by omega
              have hlj2 : decide ((L.length : Int) < (L.length : Int)) = false := decide_eq_false (by omega)
              have hljn : decide (L.length < L.length) = false := decide_eq_false (by omega)
              go_wp2_with (go_at_call 20; refine (al_alive_q HU.out.kp).mono ?_; rintro e wa ⟨rfl, Ka⟩; have HKA := hid (HK0.out.chain Ka); clear Ka)
              go_ret
              exact ⟨rfl, HKA.out⟩
  · have te : (ev != 0) = true := bne_iff_ne.2 hz
    clear HG HU2 d0 d1 d2 a0 a1 a2 hev hav hz h32
    go_wp2_with (first
      | (go_at_call 32; refine (HU3.out.alloc x y z hq9).mono ?_; rintro e w7 ⟨rfl, U7⟩; rw [HEV.out]; have HU7 := hid U7; clear U7)
      | (go_at_call 20; refine (al_alive_q HU7.out.kp).mono ?_; rintro e wa ⟨rfl, Ka⟩; have HKA := hid (HK0.out.chain Ka); clear Ka))
    go_ret
    exact ⟨rfl, HKA.out⟩
set_option maxRecDepth 100000 in
set_option maxHeartbeats 4000000 in
theorem first_ok_true (n s : Int) (Ad : Option Addr) (len cap : Nat) (hA : QActs w Ad len) (x y z : Int) :
    Calls Tryz.prog 6 #[.int .i64 n, .int .i64 s, .bool true, .slice Ad len cap, .agg #[.int .i64 x, .int .i64 y, .int .i64 z]] w (TrueP w) := by
  have HQA := hid (hA.kp0 (Kp.new w (.cells #[.int .i64 x, .int .i64 y, .int .i64 z] 33)))
  have hb := Blk.new w 33 #[.int .i64 x, .int .i64 y, .int .i64 z]
  have b0 := hb.cell 0
  have b1 := hb.cell 1
  have b2 := hb.cell 2
  have HK0 := hid (Kp.new w (.cells #[.int .i64 x, .int .i64 y, .int .i64 z] 33))
  clear hA hb
  go_enter Tryz.func6, Tryz.ntmps6
  go_wp2_with (fail)
  generalize w.alloc (.cells #[.int .i64 x, .int .i64 y, .int .i64 z] 33) = w0 at HQA b0 b1 b2 HK0 ⊢
  generalize w.heap.size = gb at b0 b1 b2 ⊢
  refine (made_any n s 1 Ad len cap HQA.out).mono ?_
  rintro e w1 (⟨rfl, K1⟩ | ⟨n', s', p', rfl, rfl, hp', _, _, _, _, b, q, m, g, A, rfl, U1, hq, _, hR⟩)
  · have HK1 := hid K1
    clear K1
    go_wp2_with (go_at_call 20; refine (al_alive_q HK1.out).mono ?_; rintro e wa ⟨rfl, Ka⟩; have HKA := hid (HK0.out.chain Ka); clear Ka)
    go_ret
    exact ⟨rfl, HKA.out⟩
  have HU1 := hid U1
  obtain ⟨hsp, hpo⟩ := hR.sp
  have HSP := hid hsp
  have HPO : Hid (A.po = if true = true then 1 else 0) := by show _ = _; rw [hpo]; simp; omega
  obtain ⟨wn, hw, hwb, hwv, hwi⟩ := wordsI_nat x y z
  have HW := hid hw
  have HWV := hid hwv
  have c0 := cell_kp U1.kp b0
  have c1 := cell_kp U1.kp b1
  have c2 := cell_kp U1.kp b2
  have B0 := hid b0
  have B1 := hid b1
  have B2 := hid b2
  clear U1 hR hsp hpo hw hwv hwi b0 b1 b2 hp'
  by_cases h32 : 32 < wn
  · have t32 : decide ((32 : Int) < (wn : Int)) = true := decide_eq_true (by omega)
    have t32n : decide (32 < wn) = true := decide_eq_true h32
    go_wp2_with (first
      | (go_at_call 37; refine (words_k HU1.out HW.out).mono ?_; rintro e w3 ⟨rfl, U3, K3⟩; have HU3 := hid U3; clear U3 K3)
      | (go_at_call 20; refine (al_alive_q HU3.out.kp).mono ?_; rintro e wa ⟨rfl, Ka⟩; have HKA := hid (HK0.out.chain Ka); clear Ka))
    go_ret
    exact ⟨rfl, HKA.out⟩
  have t32 : decide ((32 : Int) < (wn : Int)) = false := decide_eq_false (by omega)
  have t32n : decide (32 < wn) = false := decide_eq_false h32
  go_wp2_with (go_at_call 37; refine (words_k HU1.out HW.out).mono ?_; rintro e w4 ⟨rfl, U4, K4⟩; have HU4 := hid U4; have a0 := cell_kp K4 c0; have a1 := cell_kp K4 c1; have a2 := cell_kp K4 c2; clear U4 K4)
  clear HU1 c0 c1 c2
  go_region_held3 (fun W => W.cell? ⟨gb, 0, none⟩ = some (.int .i64 x) ∧ W.cell? ⟨gb, 1, none⟩ = some (.int .i64 y) ∧ W.cell? ⟨gb, 2, none⟩ = some (.int .i64 z)) (go_keep)
    (first
      | (go_at_call 38; refine (gaps_f (HU4.out.step' (Kp.draw w4 1)) s').mono ?_; rintro e w2 ⟨Ag, cg, rfl, hg, U2, K2⟩; have HG := hid hg; have HU2 := hid U2; have d0 := cell_kp ((Kp.draw w4 1).chain K2) a0; have d1 := cell_kp ((Kp.draw w4 1).chain K2) a1; have d2 := cell_kp ((Kp.draw w4 1).chain K2) a2; clear hg U2 K2)
      | (go_at_call 37; refine (words_k HU2.out HW.out).mono ?_; rintro e w3 ⟨rfl, U3, K3⟩; have HU3 := hid U3; have HK3 := hid K3; have e0 := cell_kp K3 d0; have e1 := cell_kp K3 d1; have e2 := cell_kp K3 d2; clear U3 K3))
  obtain ⟨ev, hev⟩ : ∃ r, m.alE A x y z = r := ⟨_, rfl⟩
  obtain ⟨av, hav⟩ : ∃ r, m.alV A x y z = r := ⟨_, rfl⟩
  have HEV := hid hev
  have HAV := hid hav
  have hq9 : q ≤ 900000000 := by omega
  by_cases hz : ev = 0
  · have te : (ev != 0) = false := by simp [hz]
    have HVV : Hid (vldB x y z = true) := by
      show _ = _
      rcases hv : vldB x y z
      · have := full_inv (m := m) (A := A) hv; omega
      · rfl
    have hspec := first_spec HU3.out.sh.inv (best := true) HPO.out HVV.out (HWV.out HVV.out) h32 (hev.trans hz)
    rw [HAV.out, HSP.out] at hspec
    have HGC : Hid (∀ i, i < (rgL m s' m.bl.length).length → ∃ gb, Ag = some ⟨gb, 0, none⟩ ∧ gb ∉ g :: b.all ∧ w3.cell? ⟨gb, i * 2, none⟩ = some (.int .i64 (((rgL m s' m.bl.length).getD i (0, 0)).1 : Int)) ∧ w3.cell? ⟨gb, i * 2 + 1, none⟩ = some (.int .i64 (((rgL m s' m.bl.length).getD i (0, 0)).2 : Int))) := fun i hi => by
      obtain ⟨gg, h1, hne, h2, h3⟩ := HG.out i hi
      exact ⟨gg, h1, hne, cell_kp HK3.out h2, cell_kp HK3.out h3⟩
    have hll := rgL_len HU3.out.sh.inv s' m.bl.length
    have hN64 : m.bl.length ≤ 64 := HU3.out.sh.inv.len64
    have HLB : Hid (∀ i, i < (rgL m s' m.bl.length).length → 64 ≤ ((rgL m s' m.bl.length).getD i (0, 0)).1 ∧ ((rgL m s' m.bl.length).getD i (0, 0)).1 + ((rgL m s' m.bl.length).getD i (0, 0)).2 ≤ 4096) := fun i hi => rgL_bd HU3.out.sh.inv (getD_mem hi)
    have HLT : Hid (∀ i j, i < j → j < (rgL m s' m.bl.length).length → ((rgL m s' m.bl.length).getD i (0, 0)).1 < ((rgL m s' m.bl.length).getD j (0, 0)).1) := fun i j h1 h2 => rgL_lt HU3.out.sh.inv s' h1 h2
    have hl9 : (rgL m s' m.bl.length).length ≤ 3000 := by omega
    generalize rgL m s' m.bl.length = L at HG HGC hspec HLB HLT hl9
    have HSPEC := hid hspec
    clear HG HU2 d0 d1 d2 a0 a1 a2 hev hav hspec hz hll hN64 h32
    go_wp2_with (go_at_call 32; refine (alloc_k HU3.out x y z hq9).mono ?_; rintro e w7 ⟨rfl, U7, K7⟩; rw [HEV.out, HAV.out]; have HU7 := hid U7; have HK7 := hid K7; clear U7 K7)
    go_loopw [18, 19, 20] (fun f sz c wr => ∃ j : Nat, j ≤ L.length ∧ c = .int .i64 (j : Int) ∧ f = .bool (anyF (L.take j) wn) ∧ sz = .int .i64 (szN L av j) ∧ LV w0 wr b (q + 1) (m.alM A x y z) g (m.alA A x y z) ∧ Kp [] w7 wr) (fun _ _ c _ => L.length - (intOf c).toNat)
    case atStart => exact ⟨0, by omega, rfl, rfl, rfl, HU7.out, Kp.refl _ _⟩
    case round =>
      rename World => ws
      obtain ⟨j, hj, rfl, rfl, rfl, U, K⟩ := hrel
      have HU := hid U
      have HK := hid K
      clear U K
      by_cases hlj : j < L.length
      · have hlj2 : decide ((j : Int) < (L.length : Int)) = true := decide_eq_true (by omega)
        have hljn : decide (j < L.length) = true := decide_eq_true hlj
        obtain ⟨gg, rfl, hne, s0, s1⟩ := HGC.out j hlj
        have t0 := cell_kp HK.out (cell_kpn HK7.out hne s0)
        have t1 := cell_kp HK.out (cell_kpn HK7.out hne s1)
        obtain ⟨xv, hxv⟩ : ∃ v, (L.getD j (0, 0)).1 = v := ⟨_, rfl⟩
        obtain ⟨yv, hyv⟩ : ∃ v, (L.getD j (0, 0)).2 = v := ⟨_, rfl⟩
        rw [hxv] at t0
        rw [hyv] at t1
        have hxyb := HLB.out j hlj
        rw [hxv, hyv] at hxyb
        have HE : Hid (anyF (L.take (j + 1)) wn = (anyF (L.take j) wn || decide (wn ≤ yv))) := by show _ = _; rw [anyF_more hlj, hyv]
        have HZ : Hid (szN L av (j + 1) = if xv = av then (yv : Int) else szN L av j) := by show _ = _; rw [← hxv, ← hyv]; rfl
        clear s0 s1 hxv hyv hne
        generalize anyF (L.take j) wn = f0 at HE ⊢
        generalize szN L av j = sz at HZ ⊢
        by_cases hxa : xv = av
        · have tx : ((xv : Int) == (av : Int)) = true := beq_iff_eq.2 (by omega)
          have txn : (xv == av) = true := beq_iff_eq.2 hxa
          have HZ2 : Hid (szN L av (j + 1) = (yv : Int)) := by show _ = _; rw [HZ.out, if_pos hxa]
          clear hxa
          rcases f0
          · by_cases hfy : wn ≤ yv
            · have ty : decide ((wn : Int) ≤ (yv : Int)) = true := decide_eq_true (by omega)
              have tyn : decide (wn ≤ yv) = true := decide_eq_true hfy
              have HE2 : Hid (anyF (L.take (j + 1)) wn = true) := by show _ = _; rw [HE.out, tyn]; rfl
              clear hfy
              go_wp2
              go_roundw
              case rel => exact ⟨j + 1, by omega, by go_num, by rw [HE2.out], by rw [HZ2.out], HU.out, HK.out⟩
              case measure => simp [intOf]; omega
            · have ty : decide ((wn : Int) ≤ (yv : Int)) = false := decide_eq_false (by omega)
              have tyn : decide (wn ≤ yv) = false := decide_eq_false hfy
              have HE2 : Hid (anyF (L.take (j + 1)) wn = false) := by show _ = _; rw [HE.out, tyn]; rfl
              clear hfy
              go_wp2
              go_roundw
              case rel => exact ⟨j + 1, by omega, by go_num, by rw [HE2.out], by rw [HZ2.out], HU.out, HK.out⟩
              case measure => simp [intOf]; omega
          · have HE2 : Hid (anyF (L.take (j + 1)) wn = true) := by show _ = _; rw [HE.out]; rfl
            go_wp2
            go_roundw
            case rel => exact ⟨j + 1, by omega, by go_num, by rw [HE2.out], by rw [HZ2.out], HU.out, HK.out⟩
            case measure => simp [intOf]; omega
        · have tx : ((xv : Int) == (av : Int)) = false := beq_eq_false_iff_ne.2 (by omega)
          have txn : (xv == av) = false := beq_eq_false_iff_ne.2 hxa
          have HZ2 : Hid (szN L av (j + 1) = sz) := by show _ = _; rw [HZ.out, if_neg hxa]
          clear hxa
          rcases f0
          · by_cases hfy : wn ≤ yv
            · have ty : decide ((wn : Int) ≤ (yv : Int)) = true := decide_eq_true (by omega)
              have tyn : decide (wn ≤ yv) = true := decide_eq_true hfy
              have HE2 : Hid (anyF (L.take (j + 1)) wn = true) := by show _ = _; rw [HE.out, tyn]; rfl
              clear hfy
              go_wp2
              go_roundw
              case rel => exact ⟨j + 1, by omega, by go_num, by rw [HE2.out], by rw [HZ2.out], HU.out, HK.out⟩
              case measure => simp [intOf]; omega
            · have ty : decide ((wn : Int) ≤ (yv : Int)) = false := decide_eq_false (by omega)
              have tyn : decide (wn ≤ yv) = false := decide_eq_false hfy
              have HE2 : Hid (anyF (L.take (j + 1)) wn = false) := by show _ = _; rw [HE.out, tyn]; rfl
              clear hfy
              go_wp2
              go_roundw
              case rel => exact ⟨j + 1, by omega, by go_num, by rw [HE2.out], by rw [HZ2.out], HU.out, HK.out⟩
              case measure => simp [intOf]; omega
          · have HE2 : Hid (anyF (L.take (j + 1)) wn = true) := by show _ = _; rw [HE.out]; rfl
            go_wp2
            go_roundw
            case rel => exact ⟨j + 1, by omega, by go_num, by rw [HE2.out], by rw [HZ2.out], HU.out, HK.out⟩
            case measure => simp [intOf]; omega
      · obtain rfl : j = L.length := by omega
        have hlj2 : decide ((L.length : Int) < (L.length : Int)) = false := decide_eq_false (by omega)
        have hljn : decide (L.length < L.length) = false := decide_eq_false (by omega)
        rw [List.take_length]
        rcases HSPEC.out with ⟨hf, h64, hno⟩ | ⟨hf, t, ht, hta, hnt, hsp2⟩
        · rw [hf, szN_none _ hno]
          have tr : Int.tmod (av : Int) 64 = 0 := by rw [Int.tmod_eq_emod_of_nonneg (by omega)]; omega
          clear hf h64 hno
          go_wp2_with (go_at_call 20; refine (al_alive_q HU.out.kp).mono ?_; rintro e wa ⟨rfl, Ka⟩; have HKA := hid (HK0.out.chain Ka); clear Ka)
          go_ret
          exact ⟨rfl, HKA.out⟩
        · obtain ⟨zv, hzv⟩ : ∃ v, (L.getD t (0, 0)).2 = v := ⟨_, rfl⟩
          rw [hf, szN_some hta _ ht (fun i hi hit => by
            rw [← hta]
            by_cases h : i < t
            · have := HLT.out i t h ht; omega
            · have := HLT.out t i (by omega) hi; omega), hzv]
          rw [hzv] at hnt
          have HSP2 : Hid (∀ i, i < L.length → wn ≤ (L.getD i (0, 0)).2 → (true = false → ¬ (L.getD i (0, 0)).1 < av) ∧ (true = true → zv ≤ (L.getD i (0, 0)).2 ∧ ((L.getD i (0, 0)).2 = zv → ¬ (L.getD i (0, 0)).1 < av))) := fun i hi hni => by
            have := hsp2 i hi hni
            rw [hzv] at this
            exact ⟨fun h => by first | (cases h; done) | exact this.1 (by first | trivial | rfl), fun h => by first | (cases h; done) | exact this.2 (by first | trivial | rfl)⟩
          have tfz : decide ((wn : Int) ≤ (zv : Int)) = true := decide_eq_true (by omega)
          have tfzn : decide (wn ≤ zv) = true := decide_eq_true hnt
          have hzb : zv ≤ 4096 := by have := HLB.out t ht; omega
          have HKW := hid HK.out
          have HUW := hid HU.out
          clear hf hta hsp2 hzv HK HU ht hnt HSPEC
          go_wp2
          go_loopw [21] (fun c wr => ∃ j : Nat, j ≤ L.length ∧ c = .int .i64 (j : Int) ∧ LV w0 wr b (q + 1) (m.alM A x y z) g (m.alA A x y z) ∧ Kp [] w7 wr) (fun c _ => L.length - (intOf c).toNat)
          case atStart => exact ⟨0, by omega, rfl, HUW.out, HKW.out⟩
          case round =>
            rename World => wt
            obtain ⟨j, hj, rfl, U, K⟩ := hrel
            have HU := hid U
            have HK := hid K
            clear U K
            by_cases hlj : j < L.length
            · have hlj2 : decide ((j : Int) < (L.length : Int)) = true := decide_eq_true (by omega)
              have hljn : decide (j < L.length) = true := decide_eq_true hlj
              obtain ⟨gg, rfl, hne, s0, s1⟩ := HGC.out j hlj
              have t0 := cell_kp HK.out (cell_kpn HK7.out hne s0)
              have t1 := cell_kp HK.out (cell_kpn HK7.out hne s1)
              obtain ⟨xv, hxv⟩ : ∃ v, (L.getD j (0, 0)).1 = v := ⟨_, rfl⟩
              obtain ⟨yv, hyv⟩ : ∃ v, (L.getD j (0, 0)).2 = v := ⟨_, rfl⟩
              rw [hxv] at t0
              rw [hyv] at t1
              have hxyb := HLB.out j hlj
              rw [hxv, hyv] at hxyb
              have HSJ := hid (HSP2.out j hlj)
              rw [hxv, hyv] at HSJ
              clear s0 s1 hxv hyv hne
              by_cases hny : wn ≤ yv
              · have hsj := HSJ.out hny
                have ty : decide ((wn : Int) ≤ (yv : Int)) = true := decide_eq_true (by omega)
                have tyn : decide (wn ≤ yv) = true := decide_eq_true hny
                obtain ⟨hzy, hxx⟩ := hsj.2 (by first | trivial | rfl)
                have tz : decide ((yv : Int) < (zv : Int)) = false := decide_eq_false (by omega)
                have tzn : decide (yv < zv) = false := decide_eq_false (by omega)
                by_cases hyz : yv = zv
                · have tq : ((yv : Int) == (zv : Int)) = true := beq_iff_eq.2 (by omega)
                  have tqn : (yv == zv) = true := beq_iff_eq.2 hyz
                  have hxa := hxx hyz
                  have tx : decide ((xv : Int) < (av : Int)) = false := decide_eq_false (by omega)
                  have txn : decide (xv < av) = false := decide_eq_false hxa
                  clear hsj hny hzy hxx hyz hxa
                  go_wp2
                  go_roundw
                  case rel => exact ⟨j + 1, by omega, by go_num, HU.out, HK.out⟩
                  case measure => simp [intOf]; omega
                · have tq : ((yv : Int) == (zv : Int)) = false := beq_eq_false_iff_ne.2 (by omega)
                  have tqn : (yv == zv) = false := beq_eq_false_iff_ne.2 hyz
                  clear hsj hny hzy hxx hyz
                  go_wp2
                  go_roundw
                  case rel => exact ⟨j + 1, by omega, by go_num, HU.out, HK.out⟩
                  case measure => simp [intOf]; omega
              · have ty : decide ((wn : Int) ≤ (yv : Int)) = false := decide_eq_false (by omega)
                have tyn : decide (wn ≤ yv) = false := decide_eq_false hny
                clear hny
                go_wp2
                go_roundw
                case rel => exact ⟨j + 1, by omega, by go_num, HU.out, HK.out⟩
                case measure => simp [intOf]; omega
            · obtain rfl : j = L.length := by omega
              have hlj2 : decide ((L.length : Int) < (L.length : Int)) = false := decide_eq_false (by omega)
              have hljn : decide (L.length < L.length) = false := decide_eq_false (by omega)
              go_wp2_with (go_at_call 20; refine (al_alive_q HU.out.kp).mono ?_; rintro e wa ⟨rfl, Ka⟩; have HKA := hid (HK0.out.chain Ka); clear Ka)
              go_ret
              exact ⟨rfl, HKA.out⟩
  · have te : (ev != 0) = true := bne_iff_ne.2 hz
    clear HG HU2 d0 d1 d2 a0 a1 a2 hev hav hz h32
    go_wp2_with (first
      | (go_at_call 32; refine (HU3.out.alloc x y z hq9).mono ?_; rintro e w7 ⟨rfl, U7⟩; rw [HEV.out]; have HU7 := hid U7; clear U7)
      | (go_at_call 20; refine (al_alive_q HU7.out.kp).mono ?_; rintro e wa ⟨rfl, Ka⟩; have HKA := hid (HK0.out.chain Ka); clear Ka))
    go_ret
    exact ⟨rfl, HKA.out⟩
theorem first_ok (n s : Int) (bv : Bool) (Ad : Option Addr) (len cap : Nat) (hA : QActs w Ad len) (x y z : Int) :
    Calls Tryz.prog 6 #[.int .i64 n, .int .i64 s, .bool bv, .slice Ad len cap, .agg #[.int .i64 x, .int .i64 y, .int .i64 z]] w (TrueP w) := by
  rcases bv
  · exact first_ok_false n s Ad len cap hA x y z
  · exact first_ok_true n s Ad len cap hA x y z
end
end Go.Proofs.YtmkmnlmfpddjkaaGreat
