/-
  The contracts of package heap's suits and checkRoom. Conditions: those that stand in each theorem.
-/
import Derived.Test.YtkhemendnoeciaaGreatHe
namespace Go.Proofs.YtkhemendnoeciaaGreat
set_option linter.unusedVariables false
set_option linter.unusedSimpArgs false
open Go.RowKit Go.Deep Go.Maps

/-- Does another object have one of some pairs of words. -/
def tkB (m : HM) (own k n : Nat) : Bool := (List.range n).any fun i => decide (m.own (k + 2 * i) ≠ 0 ∧ m.own (k + 2 * i) ≠ own)
theorem tkB_true {m : HM} {own k n i : Nat} (hi : i < n) (h1 : m.own (k + 2 * i) ≠ 0) (h2 : m.own (k + 2 * i) ≠ own) : tkB m own k n = true := by
  unfold tkB
  rw [List.any_eq_true]
  exact ⟨i, List.mem_range.2 hi, decide_eq_true ⟨h1, h2⟩⟩
theorem tkB_false {m : HM} {own k n : Nat} : tkB m own k n = false ↔ ∀ i, i < n → m.own (k + 2 * i) = 0 ∨ m.own (k + 2 * i) = own := by
  unfold tkB
  rw [List.any_eq_false]
  constructor
  · intro h i hi
    have := h i (List.mem_range.2 hi)
    simp only [decide_eq_true_eq] at this
    omega
  · intro h i hi
    have := h i (List.mem_range.1 hi)
    simp only [decide_eq_true_eq]
    omega
def tkE (m : HM) (own k n : Nat) : Int := if tkB m own k n then 8 else 0
/-- What forbids an object of some words at an address. -/
def roomE (m : HM) (a : Int) (wd own : Nat) : Int :=
  if 0 ≤ a ∧ a % 2 = 0 ∧ a < (m.n : Int) then (if suitB m.bl a.toNat wd then tkE m own a.toNat (wd / 2) else 5) else 1
theorem roomE_zero {m : HM} {a : Int} {wd own : Nat} (h : roomE m a wd own = 0) : ∃ k : Nat, a = (k : Int) ∧ k % 2 = 0 ∧ k < m.n ∧ suitB m.bl k wd = true ∧ tkB m own k (wd / 2) = false := by
  unfold roomE at h
  split at h
  · split at h
    · unfold tkE at h
      split at h
      · omega
      · refine ⟨a.toNat, by omega, by omega, by omega, by assumption, by simpa using (by assumption : ¬ tkB m own a.toNat (wd / 2) = true)⟩
    · omega
  · omega
section
variable {w w' : World} {b : HB} {r : RM} {m : HM} {q : Nat}
set_option maxHeartbeats 2000000 in
theorem h_suits (h : SH w b q m) (k wd : Nat) (hk : k < m.n) (hw1 : 1 ≤ wd) (hw : wd ≤ 1000) :
    Calls Tryz.prog 131 #[.pointer (some ⟨b.g, 0, none⟩), .int .i64 (k : Int), .int .i64 (wd : Int)] w fun e w' => e = .returned (.bool (suitB m.bl k wd)) ∧ ∃ m, w' = w.drewN m := by
  obtain ⟨r, R, A, _⟩ := h
  rw [← A.bl]
  have hbl : k / 64 < r.bl.length := by unfold HM.n at hk; rw [← A.bl] at hk; omega
  have hc := R.c0
  have hl := R.bl64
  have hl2 := R.cb1
  have hs := R.stc hbl
  by_cases h32 : wd ≤ 32
  · have hx : suitB r.bl k wd = decide ((r.bl.getD (k / 64) (0, 0)).1 = 1 ∧ k % 64 + wd ≤ 64) := by unfold suitB; rw [if_pos h32]
    rw [hx]; clear hx
    generalize (r.bl.getD (k / 64) (0, 0)).1 = s at hs ⊢
    by_cases h1 : s = 1
    · subst h1
      by_cases h2 : k % 64 + wd ≤ 64
      · have e : decide (1 = 1 ∧ k % 64 + wd ≤ 64) = true := decide_eq_true ⟨rfl, h2⟩
        have f : decide ((k : Int) % 64 + (wd : Int) ≤ 64) = true := decide_eq_true (by omega)
        rw [e]; clear e
        go_enter Tryz.func131, Tryz.ntmps131
        go_wp2
        go_ret
        exact ⟨rfl, 0, rfl⟩
      · have e : decide (1 = 1 ∧ k % 64 + wd ≤ 64) = false := decide_eq_false (fun h => h2 h.2)
        have f : decide ((k : Int) % 64 + (wd : Int) ≤ 64) = false := decide_eq_false (by omega)
        rw [e]; clear e
        go_enter Tryz.func131, Tryz.ntmps131
        go_wp2
        go_ret
        exact ⟨rfl, 0, rfl⟩
    · have e : decide (s = 1 ∧ k % 64 + wd ≤ 64) = false := decide_eq_false (fun h => h1 h.1)
      have e2 : ((s : Int) == 1) = false := beq_eq_false_iff_ne.2 (by omega)
      rw [e]; clear e h1
      go_enter Tryz.func131, Tryz.ntmps131
      go_wp2
      go_ret
      exact ⟨rfl, 0, rfl⟩
  · have hx : suitB r.bl k wd = decide ((r.bl.getD (k / 64) (0, 0)).1 = 2 ∧ k % 64 = 0 ∧ grpEnd r.bl (k / 64) - k / 64 = (wd + 63) / 64) := by unfold suitB; rw [if_neg h32]
    rw [hx]; clear hx
    have HG := hid (fun (W : World) (RR : Raw W b r) => h_group RR (k / 64) hbl)
    have hge := ((grpEnd_iff r.bl (k / 64) _ hbl).1 rfl)
    have hgl : grpEnd r.bl (k / 64) - k / 64 ≤ 64 := by omega
    generalize (r.bl.getD (k / 64) (0, 0)).1 = s at hs ⊢
    generalize grpEnd r.bl (k / 64) - k / 64 = gl at HG hgl ⊢
    clear hge
    have hup : (wd + 63) / 64 * 64 ≤ 2000 := by omega
    have e5 : (((wd + 63) / 64 * 64 : Nat) : Int) / 64 = (((wd + 63) / 64 : Nat) : Int) := by omega
    have hbd : (wd + 63) / 64 ≤ 20 := by omega
    have HU := hid (fun W : World => h_up64 wd W (by omega))
    generalize hy : (wd + 63) / 64 = y at e5 hup HU hbd ⊢
    clear hy
    have H5 := hid e5
    clear e5
    by_cases h1 : s = 2
    · subst h1
      by_cases h2 : k % 64 = 0
      · have f2 : ((k : Int) % 64 == 0) = true := beq_iff_eq.2 (by omega)
        by_cases h3 : gl = y
        · have e : decide (2 = 2 ∧ k % 64 = 0 ∧ gl = y) = true := decide_eq_true ⟨rfl, h2, h3⟩
          have f3 : ((gl : Int) == (y : Int)) = true := beq_iff_eq.2 (by omega)
          rw [e]; clear e h3 h2
          go_enter Tryz.func131, Tryz.ntmps131
          go_wp2_with (first | (go_at_call 132; refine (HU.out _).mono ?_; rintro e w' ⟨rfl, n1, rfl⟩) | (go_at_call 105; refine (HG.out _ (R.drewN _)).mono ?_; rintro e w' ⟨rfl, n2, rfl⟩; first | rw [H5.out] | skip))
          go_ret
          exact ⟨rfl, _, rfl⟩
        · have e : decide (2 = 2 ∧ k % 64 = 0 ∧ gl = y) = false := decide_eq_false (fun h => h3 h.2.2)
          have f3 : ((gl : Int) == (y : Int)) = false := beq_eq_false_iff_ne.2 (by omega)
          rw [e]; clear e h3 h2
          go_enter Tryz.func131, Tryz.ntmps131
          go_wp2_with (first | (go_at_call 132; refine (HU.out _).mono ?_; rintro e w' ⟨rfl, n1, rfl⟩) | (go_at_call 105; refine (HG.out _ (R.drewN _)).mono ?_; rintro e w' ⟨rfl, n2, rfl⟩; first | rw [H5.out] | skip))
          go_ret
          exact ⟨rfl, _, rfl⟩
      · have f2 : ((k : Int) % 64 == 0) = false := beq_eq_false_iff_ne.2 (by omega)
        have e : decide (2 = 2 ∧ k % 64 = 0 ∧ gl = y) = false := decide_eq_false (fun h => h2 h.2.1)
        rw [e]; clear e h2
        go_enter Tryz.func131, Tryz.ntmps131
        go_wp2_with (first | (go_at_call 132; refine (HU.out _).mono ?_; rintro e w' ⟨rfl, n1, rfl⟩))
        go_ret
        exact ⟨rfl, _, rfl⟩
    · have e : decide (s = 2 ∧ k % 64 = 0 ∧ gl = y) = false := decide_eq_false (fun h => h1 h.1)
      have f1 : ((s : Int) == 2) = false := beq_eq_false_iff_ne.2 (by omega)
      rw [e]; clear e h1
      go_enter Tryz.func131, Tryz.ntmps131
      go_wp2_with (first | (go_at_call 132; refine (HU.out _).mono ?_; rintro e w' ⟨rfl, n1, rfl⟩))
      go_ret
      exact ⟨rfl, _, rfl⟩
set_option maxHeartbeats 2000000 in
theorem h_room (h : SH w b q m) (a : Int) (ha : W64 a) (wd own : Nat) (hw1 : 1 ≤ wd) (hw2 : wd % 2 = 0) (hw : wd ≤ 1000) (ho : own ≤ 10000) :
    Calls Tryz.prog 96 #[.pointer (some ⟨b.g, 0, none⟩), .int .i64 a, .int .i64 (wd : Int), .int .i64 (own : Int)] w fun e w' => e = .returned (.int .i64 (roomE m a wd own)) ∧ ∃ m, w' = w.drewN m := by
  have hl1 := ha.1
  have hl2 := ha.2
  clear ha
  have I := h.inv
  have hnb := I.n_bd
  have HWD : ∀ W : World, SH W b q m → ∀ i : Int, Calls Tryz.prog 100 #[.pointer (some ⟨b.g, 0, none⟩), .int .i64 i] W fun e w' => e = .returned (.bool (inB m.n i)) ∧ ∃ m, w' = W.drewN m := by
    intro W hS i
    obtain ⟨r, R, A, _⟩ := hS
    rw [← A.wl R]
    exact h_hasWord R i
  have HW := hid HWD
  clear HWD
  by_cases h1 : 0 ≤ a ∧ a % 2 = 0 ∧ a < (m.n : Int)
  · obtain ⟨k, rfl⟩ : ∃ k : Nat, a = (k : Int) := ⟨a.toNat, by omega⟩
    have hk : k < m.n := by omega
    have er : roomE m (k : Int) wd own = (if suitB m.bl k wd then tkE m own k (wd / 2) else 5) := by
      unfold roomE; rw [if_pos h1, Int.toNat_natCast]
    rw [er]; clear er
    have e0 : ((k : Int) % 2 != 0) = false := by rw [bne_eq_false_iff_eq]; omega
    have HI : Hid (inB m.n (k : Int) = true) := decide_eq_true ⟨by omega, h1.2.2⟩
    have HS := hid (fun W (hS : SH W b q m) => h_suits hS k wd hk hw1 hw)
    clear h1
    rcases hs : suitB m.bl k wd
    · rw [if_neg (by decide)]
      have HB := hid hs
      clear hs
      go_enter Tryz.func96, Tryz.ntmps96
      go_wp2_with (first | (go_at_call 100; refine (HW.out _ h _).mono ?_; rintro e w' ⟨rfl, n1, rfl⟩; rw [HI.out]) | (go_at_call 131; refine (HS.out _ (h.drewN _)).mono ?_; rintro e w' ⟨rfl, n2, rfl⟩; rw [HB.out]))
      go_ret
      exact ⟨rfl, _, rfl⟩
    · rw [if_pos rfl]
      have HB := hid hs
      have hhi := (suit_bd hs).2.1
      have hhi2 : k + wd ≤ 4096 := by unfold HM.n at hnb; omega
      clear hs hhi
      have hw' : wd / 2 * 2 = wd := by omega
      generalize hy : wd / 2 = y at hw' ⊢
      subst hw'
      clear hy
      go_enter Tryz.func96, Tryz.ntmps96
      go_wp2_with (first | (go_at_call 100; refine (HW.out _ h _).mono ?_; rintro e w' ⟨rfl, n1, rfl⟩; rw [HI.out]) | (go_at_call 131; refine (HS.out _ (h.drewN _)).mono ?_; rintro e w' ⟨rfl, n2, rfl⟩; rw [HB.out]))
      go_loopw [9] (fun c wr => ∃ j n : Nat, j ≤ y ∧ c = .int .i64 ((k + 2 * j : Nat) : Int) ∧ wr = w.drewN n ∧ Hid (∀ i, i < j → m.own (k + 2 * i) = 0 ∨ m.own (k + 2 * i) = own)) (fun c _ => (k + 2 * y) - (intOf c).toNat)
      case atStart => exact ⟨0, _, by omega, by simp, rfl, (fun i hi => absurd hi (by omega))⟩
      case round =>
        obtain ⟨j, n, hj, rfl, rfl, HN⟩ := hrel
        by_cases hlt : j < y
        · have e3 : m.ownI ((k + 2 * j : Nat) : Int) = m.own (k + 2 * j) := by unfold HM.ownI; rw [if_pos (by omega), Int.toNat_natCast]
          have H3 := hid e3
          have hob : m.own (k + 2 * j) ≤ 10000 := by
            rcases own_cases I (k + 2 * j) with ⟨a0, o, h0, h1, h2, h3⟩ | ⟨_, h2⟩
            · have := I.hi h0
              have := (I.ok _ _ h0).wd_bd
              omega
            · omega
          have HO := hid (h_owner (h.drewN n) ((k + 2 * j : Nat) : Int) ⟨by omega, by omega⟩)
          have e5 : ((k + 2 * j : Nat) : Int) = (k : Int) + 2 * (j : Int) := by omega
          rw [e5] at HO
          by_cases hz : m.own (k + 2 * j) = 0
          · have HN' : Hid (∀ i, i < j + 1 → m.own (k + 2 * i) = 0 ∨ m.own (k + 2 * i) = own) := fun i hi => by
              by_cases h4 : i < j
              · exact HN.out i h4
              · obtain rfl : i = j := by omega
                exact .inl hz
            rw [hz] at e3
            have H3 := hid e3
            clear e3 hz hob e5
            go_wp2_with (first | (go_at_call 128; refine HO.out.mono ?_; rintro e w' ⟨rfl, n5, rfl⟩; rw [show ((k : Int) + 2 * (j : Int)) = ((k + 2 * j : Nat) : Int) by omega, H3.out]))
            go_roundw
            case rel => exact ⟨j + 1, _, by omega, by go_num, rfl, HN'⟩
            case measure => simp [intOf]; omega
          · by_cases hown : m.own (k + 2 * j) = own
            · have HN' : Hid (∀ i, i < j + 1 → m.own (k + 2 * i) = 0 ∨ m.own (k + 2 * i) = own) := fun i hi => by
                by_cases h4 : i < j
                · exact HN.out i h4
                · obtain rfl : i = j := by omega
                  exact .inr hown
              rw [hown] at e3
              have H3 := hid e3
              have f1 : ((own : Int) != 0) = true := bne_iff_ne.2 (by omega)
              clear e3 hz hob hown e5
              go_wp2_with (first | (go_at_call 128; refine HO.out.mono ?_; rintro e w' ⟨rfl, n5, rfl⟩; rw [show ((k : Int) + 2 * (j : Int)) = ((k + 2 * j : Nat) : Int) by omega, H3.out]))
              go_roundw
              case rel => exact ⟨j + 1, _, by omega, by go_num, rfl, HN'⟩
              case measure => simp [intOf]; omega
            · have et : tkE m own k y = 8 := by unfold tkE; rw [if_pos (tkB_true hlt hz hown)]
              have HT := hid et
              generalize m.own (k + 2 * j) = x at hz hown H3 hob
              have f1 : ((x : Int) != 0) = true := bne_iff_ne.2 (by omega)
              have f2 : ((x : Int) != (own : Int)) = true := bne_iff_ne.2 (by omega)
              clear e3 hz hown et e5
              go_wp2_with (first | (go_at_call 128; refine HO.out.mono ?_; rintro e w' ⟨rfl, n5, rfl⟩; rw [show ((k : Int) + 2 * (j : Int)) = ((k + 2 * j : Nat) : Int) by omega, H3.out]))
              go_ret
              rw [HT.out]
              exact ⟨rfl, _, rfl⟩
        · obtain rfl : j = y := by omega
          have et : tkE m own k j = 0 := by unfold tkE; rw [tkB_false.2 HN.out]; rfl
          have HT := hid et
          clear et
          go_wp2
          go_ret
          rw [HT.out]
          exact ⟨rfl, _, rfl⟩
  · have er : roomE m a wd own = 1 := by unfold roomE; rw [if_neg h1]
    rw [er]; clear er
    by_cases hn : 0 ≤ a
    · by_cases h2 : a % 2 = 0
      · have e0 : (a % 2 != 0) = false := by rw [bne_eq_false_iff_eq]; exact h2
        have HI : Hid (inB m.n a = false) := decide_eq_false (by omega)
        clear h1 h2
        go_enter Tryz.func96, Tryz.ntmps96
        go_wp2_with (first | (go_at_call 100; refine (HW.out _ h _).mono ?_; rintro e w' ⟨rfl, n1, rfl⟩; rw [HI.out]))
        go_ret
        exact ⟨rfl, _, rfl⟩
      · have e0 : (a % 2 != 0) = true := bne_iff_ne.2 h2
        clear h1 h2
        go_enter Tryz.func96, Tryz.ntmps96
        go_wp2
        go_ret
        exact ⟨rfl, 0, rfl⟩
    · by_cases h2 : a.tmod 2 = 0
      · have e0 : (a.tmod 2 != 0) = false := by rw [bne_eq_false_iff_eq]; exact h2
        have HI : Hid (inB m.n a = false) := decide_eq_false (by omega)
        clear h1 h2
        go_enter Tryz.func96, Tryz.ntmps96
        go_wp2_with (first | (go_at_call 100; refine (HW.out _ h _).mono ?_; rintro e w' ⟨rfl, n1, rfl⟩; rw [HI.out]))
        go_ret
        exact ⟨rfl, _, rfl⟩
      · have e0 : (a.tmod 2 != 0) = true := bne_iff_ne.2 h2
        clear h1 h2
        go_enter Tryz.func96, Tryz.ntmps96
        go_wp2
        go_ret
        exact ⟨rfl, 0, rfl⟩
end
end Go.Proofs.YtkhemendnoeciaaGreat
