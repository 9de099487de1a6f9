/-
  The contracts of package heap's Has, checkObject, Pinned, owner, suits, checkRoom. Conditions: those that stand in each theorem.
-/
import Derived.Test.YtkhemendnoeciaaGreatHd
namespace Go.Proofs.YtkhemendnoeciaaGreat
set_option linter.unusedVariables false
set_option linter.unusedSimpArgs false
open Go.RowKit Go.Deep Go.Maps

/-- Is there an object with an address. -/
def HM.has (m : HM) (a : Int) : Bool := decide (0 ≤ a) && (m.ob a.toNat).isSome
theorem has_nat {m : HM} {a : Int} (h : m.has a = true) : ∃ (k : Nat) (o : Ob), a = (k : Int) ∧ m.ob k = some o := by
  unfold HM.has at h
  simp only [Bool.and_eq_true, decide_eq_true_eq] at h
  obtain ⟨o, ho⟩ := Option.isSome_iff_exists.1 h.2
  exact ⟨a.toNat, o, by omega, ho⟩
theorem has_of {m : HM} {k : Nat} {o : Ob} (h : m.ob k = some o) : m.has (k : Int) = true := by simp [HM.has, h]
theorem hasB_neg {L : List Nat} {i : Int} (h : i < 0) : getS L i = -1 := by
  unfold getS
  have : hasB L i = false := decide_eq_false (by omega)
  rw [this]; rfl
theorem tdiv2_neg {a : Int} (h : a < 0) (h2 : a.tmod 2 = 0) : a.tdiv 2 < 0 := by
  obtain ⟨n, rfl⟩ : ∃ n : Nat, a = -(n : Int) := ⟨(-a).toNat, by omega⟩
  rw [Int.neg_tmod, Int.tmod_eq_emod_of_nonneg (by omega)] at h2
  rw [Int.neg_tdiv, Int.tdiv_eq_ediv_of_nonneg (by omega)]
  omega
theorem getS_nat (L : List Nat) (k : Nat) : getS L (k : Int) = if k < L.length then ((ent L k : Nat) : Int) else -1 := by
  unfold getS
  by_cases h : k < L.length
  · rw [hasB_of h, if_pos h]; rfl
  · have : hasB L (k : Int) = false := decide_eq_false (by omega)
    rw [this, if_neg h]; rfl
section
variable {w w' : World} {b : HB} {r : RM} {m : HM} {q : Nat}
theorem Abs.wl (A : Abs r m) (R : Raw w b r) : r.ws.length = m.n := by rw [R.wl, A.bl]; rfl
theorem Abs.pair1 (A : Abs r m) (R : Raw w b r) (k : Nat) (he : k % 2 = 0) : (getS r.ps ((k : Int) / 2) == 1) = (m.ob k).isSome := by
  rw [show ((k : Int) / 2) = ((k / 2 : Nat) : Int) by omega, getS_nat]
  have h1 := (A.rep.p_one A.inv (k / 2))
  rw [show 2 * (k / 2) = k by omega] at h1
  split
  · rw [Bool.eq_iff_iff, ← h1, beq_iff_eq]; omega
  · rename_i hk
    rcases ho : m.ob k with _ | o
    · rfl
    · have h2 := A.inv.hi ho
      have h3 := (A.inv.ok _ _ ho).wd_bd
      have h4 := R.pl
      have h5 := A.bl
      unfold HM.n at h2
      rw [← h5] at h2
      omega
theorem h_has (h : SH w b q m) (a : Int) (ha : W64 a) :
    Calls Tryz.prog 73 #[.pointer (some ⟨b.g, 0, none⟩), .int .i64 a] w fun e w' => e = .returned (.bool (m.has a)) ∧ ∃ m, w' = w.drewN m := by
  obtain ⟨r, R, A, _⟩ := h
  have hc := R.c2
  have hl1 := ha.1
  have hl2 := ha.2
  clear ha
  by_cases hn : a < 0
  · have e : m.has a = false := by unfold HM.has; rw [decide_eq_false (by omega)]; rfl
    rw [e]; clear e
    by_cases h2 : a.tmod 2 = 0
    · have e0 : (a.tmod 2 == 0) = true := beq_iff_eq.2 h2
      have e1 : (getS r.ps (a.tdiv 2) == 1) = false := by
        rw [hasB_neg (tdiv2_neg hn h2)]; rfl
      clear h2
      go_enter Tryz.func73, Tryz.ntmps73
      go_wp2_with (first | (go_at_call 33; refine (h_made R).mono ?_; rintro e w' ⟨rfl, n1, rfl⟩) | (go_at_call 127; refine (get_any (w := w.drewN _) R.TP _).mono ?_; rintro e w' ⟨rfl, n2, rfl⟩))
      go_ret
      exact ⟨rfl, _, rfl⟩
    · have e0 : (a.tmod 2 == 0) = false := beq_eq_false_iff_ne.2 h2
      clear h2
      go_enter Tryz.func73, Tryz.ntmps73
      go_wp2_with (first | (go_at_call 33; refine (h_made R).mono ?_; rintro e w' ⟨rfl, n1, rfl⟩))
      go_ret
      exact ⟨rfl, _, rfl⟩
  · obtain ⟨k, rfl⟩ : ∃ k : Nat, a = (k : Int) := ⟨a.toNat, by omega⟩
    clear hn
    by_cases h2 : k % 2 = 0
    · have e0 : ((k : Int) % 2 == 0) = true := beq_iff_eq.2 (by omega)
      have e1 := A.pair1 R k h2
      have e2 : m.has (k : Int) = (m.ob k).isSome := by simp [HM.has]
      rw [e2]; clear e2
      rcases hs : (m.ob k).isSome
      all_goals
        rw [hs] at e1
        clear hs h2
        go_enter Tryz.func73, Tryz.ntmps73
        go_wp2_with (first | (go_at_call 33; refine (h_made R).mono ?_; rintro e w' ⟨rfl, n1, rfl⟩) | (go_at_call 127; refine (get_any (w := w.drewN _) R.TP _).mono ?_; rintro e w' ⟨rfl, n2, rfl⟩))
        go_ret
        exact ⟨rfl, _, rfl⟩
    · have e0 : ((k : Int) % 2 == 0) = false := beq_eq_false_iff_ne.2 (by omega)
      have e2 : m.has (k : Int) = false := by
        rcases ho : m.has (k : Int)
        · rfl
        · obtain ⟨k', o, hk, ho⟩ := has_nat ho
          have := A.inv.even _ _ ho
          omega
      rw [e2]; clear e2 h2
      go_enter Tryz.func73, Tryz.ntmps73
      go_wp2_with (first | (go_at_call 33; refine (h_made R).mono ?_; rintro e w' ⟨rfl, n1, rfl⟩))
      go_ret
      exact ⟨rfl, _, rfl⟩
theorem SH.made (h : SH w b q m) : Calls Tryz.prog 33 #[.pointer (some ⟨b.g, 0, none⟩)] w fun e w' => e = .returned (.bool true) ∧ ∃ m, w' = w.drewN m := by
  obtain ⟨r, R, _⟩ := h
  exact h_made R
/-- Why there is no object with an address. -/
def HM.lackE (m : HM) (a : Int) : Int := if m.has a then 0 else 4
theorem h_check (h : SH w b q m) (a : Int) (ha : W64 a) :
    Calls Tryz.prog 101 #[.pointer (some ⟨b.g, 0, none⟩), .int .i64 a] w fun e w' => e = .returned (.int .i64 (m.lackE a)) ∧ ∃ m, w' = w.drewN m := by
  have HA := hid ha
  clear ha
  rcases hb : m.has a
  · have e : m.lackE a = 4 := by simp [HM.lackE, hb]
    rw [e]; clear e
    go_enter Tryz.func101, Tryz.ntmps101
    go_wp2_with (first | (go_at_call 33; refine h.made.mono ?_; rintro e w' ⟨rfl, n1, rfl⟩) | (go_at_call 73; refine (h_has (h.drewN _) _ HA.out).mono ?_; rintro e w' ⟨rfl, n2, rfl⟩))
    go_ret
    exact ⟨rfl, _, rfl⟩
  · have e : m.lackE a = 0 := by simp [HM.lackE, hb]
    rw [e]; clear e
    go_enter Tryz.func101, Tryz.ntmps101
    go_wp2_with (first | (go_at_call 33; refine h.made.mono ?_; rintro e w' ⟨rfl, n1, rfl⟩) | (go_at_call 73; refine (h_has (h.drewN _) _ HA.out).mono ?_; rintro e w' ⟨rfl, n2, rfl⟩))
    go_ret
    exact ⟨rfl, _, rfl⟩
/-- Is there an object with an address, and is it pinned. -/
def HM.pinned (m : HM) (a : Int) : Bool := decide (0 ≤ a) && (match m.ob a.toNat with | some o => o.pin | none => false)
theorem h_pinned (h : SH w b q m) (a : Int) (ha : W64 a) :
    Calls Tryz.prog 75 #[.pointer (some ⟨b.g, 0, none⟩), .int .i64 a] w fun e w' => e = .returned (.bool (m.pinned a)) ∧ ∃ m, w' = w.drewN m := by
  rcases hb : m.has a
  · have e : m.pinned a = false := by
      unfold HM.has at hb
      unfold HM.pinned
      by_cases hn : 0 ≤ a
      · rw [decide_eq_true hn] at hb ⊢
        rcases ho : m.ob a.toNat with _ | o
        · rfl
        · rw [ho] at hb; cases hb
      · rw [decide_eq_false hn]; rfl
    rw [e]; clear e
    have HA := hid ha
    clear ha
    go_enter Tryz.func75, Tryz.ntmps75
    go_wp2_with (go_at_call 73; refine (h_has h _ HA.out).mono ?_; rintro e w' ⟨rfl, n2, rfl⟩)
    go_ret
    exact ⟨rfl, _, rfl⟩
  · obtain ⟨k, o, rfl, ho⟩ := has_nat hb
    have e : m.pinned (k : Int) = o.pin := by simp [HM.pinned, ho]
    rw [e]; clear e
    have h0 := h
    obtain ⟨r, R, A, _⟩ := h
    have hc := R.c3
    have hk := ha.2
    have he := A.inv.even _ _ ho
    have e1 : (getS r.pn ((k : Int) / 2) == 1) = o.pin := by
      have h1 := A.rep.n_ob _ _ ho
      have h2 := A.inv.hi ho
      have h3 := (A.inv.ok _ _ ho).wd_bd
      have h4 := R.nl
      have h5 := A.bl
      unfold HM.n at h2
      rw [← h5] at h2
      rw [show ((k : Int) / 2) = ((k / 2 : Nat) : Int) by omega, getS_nat, if_pos (by omega), h1]
      rcases o.pin <;> rfl
    have HA := hid ha
    clear ha he A
    generalize o.pin = p at e1
    rcases p
    all_goals
      go_enter Tryz.func75, Tryz.ntmps75
      go_wp2_with (first | (go_at_call 73; refine (h_has h0 _ HA.out).mono ?_; rintro e w' ⟨rfl, n2, rfl⟩) | (go_at_call 127; refine (get_any (w := w.drewN _) R.TN _).mono ?_; rintro e w' ⟨rfl, n2, rfl⟩))
      go_ret
      exact ⟨rfl, _, rfl⟩
/-- The object that a word belongs to, of any int. -/
def HM.ownI (m : HM) (a : Int) : Nat := if 0 ≤ a then m.own a.toNat else 0
theorem own_far {m : HM} (I : m.Inv) {k : Nat} (h : m.n ≤ k) : m.own k = 0 := by
  refine own_gap ?_
  rintro ⟨a, o, h0, h1, h2⟩
  have := I.hi h0
  omega
set_option maxHeartbeats 1000000 in
theorem h_owner (h : SH w b q m) (a : Int) (ha : W64 a) :
    Calls Tryz.prog 128 #[.pointer (some ⟨b.g, 0, none⟩), .int .i64 a] w fun e w' => e = .returned (.int .i64 ((m.ownI a : Nat) : Int)) ∧ ∃ m, w' = w.drewN m := by
  obtain ⟨r, R, A, _⟩ := h
  have hc := R.c2
  have hl1 := ha.1
  have hl2 := ha.2
  clear ha
  have hwl := A.wl R
  have hnb := A.inv.n_bd
  by_cases hin : 0 ≤ a ∧ a < (r.ws.length : Int)
  · obtain ⟨k, rfl⟩ : ∃ k : Nat, a = (k : Int) := ⟨a.toNat, by omega⟩
    have hk : k < m.n := by omega
    have hpl : r.ps.length * 2 = m.n := by have := R.pl; have := A.bl; unfold HM.n; rw [← this]; omega
    have HI : Hid (inB r.ws.length (k : Int) = true) := decide_eq_true hin
    have e : m.ownI (k : Int) = m.own k := by simp [HM.ownI]
    rw [e]; clear e
    have hg : getS r.ps ((k : Int) / 2) = ((ent r.ps (k / 2) : Nat) : Int) := by
      rw [show ((k : Int) / 2) = ((k / 2 : Nat) : Int) by omega, getS_nat, if_pos (by omega)]
    rcases own_cases A.inv k with ⟨a0, o, h0, h1, h2, h3⟩ | ⟨h1, h2⟩
    · have he := A.inv.even _ _ h0
      have hw := (A.inv.ok _ _ h0).wd_bd
      have e1 : (getS r.ps ((k : Int) / 2) == 0) = false := by
        rw [hg]
        have := (A.rep.p_zero A.inv (k / 2))
        refine beq_eq_false_iff_ne.2 fun hc => (this.1 (by omega)) ⟨a0, o, h0, by omega, by omega⟩
      have e2 : lastN (lastP r.ps ((k : Int) / 2 + 1) 1) r.ps.length = some (a0 / 2) := by
        refine lastN_some (by omega) ?_ ?_
        · unfold lastP
          rw [decide_eq_true (by omega), decide_eq_true (by have := A.rep.p_ob _ _ h0; omega)]; rfl
        · intro j hj hj2
          unfold lastP
          by_cases hj3 : (j : Int) < (k : Int) / 2 + 1
          · have := A.rep.p_in _ _ h0 j (by omega) (by omega)
            rw [decide_eq_false (p := ((ent r.ps j : Nat) : Int) = 1) (by omega), Bool.and_false]
          · rw [decide_eq_false hj3]; rfl
      have e3 : lastV r.ps ((k : Int) / 2 + 1) 1 = ((a0 / 2 : Nat) : Int) := by unfold lastV; rw [e2]; rfl
      have e4 : (((a0 / 2 : Nat) : Int)) * 2 = (a0 : Int) := by omega
      have hlo : a0 / 2 ≤ 4096 := by omega
      rw [h3]
      generalize hx : a0 / 2 = x at e3 e4 hlo
      have H3 := hid e3
      have H4 := hid e4
      clear e2 e3 e4 hin hg h3 he hwl hpl hx
      go_enter Tryz.func128, Tryz.ntmps128
      go_wp2_with (first | (go_at_call 100; refine (h_hasWord R _).mono ?_; rintro e w' ⟨rfl, n1, rfl⟩; rw [HI.out]) | (go_at_call 127; refine (get_any (w := w.drewN _) R.TP _).mono ?_; rintro e w' ⟨rfl, n2, rfl⟩) | (go_at_call 138; refine (last_any (w := w.drewN _) R.TP _ _).mono ?_; rintro e w' ⟨rfl, n3, rfl⟩; rw [H3.out]))
      go_ret
      rw [H4.out]
      exact ⟨rfl, _, rfl⟩
    · have e1 : (getS r.ps ((k : Int) / 2) == 0) = true := by
        rw [hg]
        have := (A.rep.p_zero A.inv (k / 2)).2 (fun hc => h1 (by
          obtain ⟨a0, o, h0, h3, h4⟩ := hc
          have he := A.inv.even _ _ h0
          have hw := (A.inv.ok _ _ h0).wd_bd
          exact ⟨a0, o, h0, by omega, by omega⟩))
        rw [this]; rfl
      rw [h2]
      clear hin hg hwl hpl h2
      go_enter Tryz.func128, Tryz.ntmps128
      go_wp2_with (first | (go_at_call 100; refine (h_hasWord R _).mono ?_; rintro e w' ⟨rfl, n1, rfl⟩; rw [HI.out]) | (go_at_call 127; refine (get_any (w := w.drewN _) R.TP _).mono ?_; rintro e w' ⟨rfl, n2, rfl⟩))
      go_ret
      exact ⟨rfl, _, rfl⟩
  · have e : m.ownI a = 0 := by
      unfold HM.ownI
      split
      · exact own_far A.inv (by omega)
      · rfl
    rw [e]; clear e
    have HI : Hid (inB r.ws.length a = false) := decide_eq_false hin
    clear hin hwl
    by_cases hn : 0 ≤ a
    all_goals
      go_enter Tryz.func128, Tryz.ntmps128
      go_wp2_with (first | (go_at_call 100; refine (h_hasWord R _).mono ?_; rintro e w' ⟨rfl, n1, rfl⟩; rw [HI.out]))
      go_ret
      exact ⟨rfl, _, rfl⟩
end
end Go.Proofs.YtkhemendnoeciaaGreat
