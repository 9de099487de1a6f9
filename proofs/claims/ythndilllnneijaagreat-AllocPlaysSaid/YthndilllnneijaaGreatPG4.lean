/-
  The contracts of package heap's Has, checkObject, Pinned, owner, suits, checkRoom. Conditions: those that stand in each theorem.
-/
import Derived.Test.YthndilllnneijaaGreatPG3
import Derived.Test.YthndilllnneijaaGreatPG1
import Derived.ProofKit
import Derived.OpenShut
import Derived.ChangeOld
import Derived.Carry
import Derived.Lib.SmallJoins
import Derived.Deep.Slices
import Derived.Deep.Fields
import Derived.ChangeSame
set_option linter.unusedSimpArgs false
set_option linter.unusedVariables false
set_option maxRecDepth 100000
set_option maxHeartbeats 2000000
namespace Go.Proofs.YthndilllnneijaaGreat
open Go.RowKit Go.Deep Go.Maps
def HM.has (m : HM) (a : Int) : Bool := decide (0 ≤ a) && (m.ob a.toNat).isSome
theorem has_nat {m : HM} {a : Int} (h : m.has a = true) : ∃ (k : Nat) (o : Ob), a = (k : Int) ∧ m.ob k = some o := by
 unfold HM.has at h
 simp only [Bool.and_eq_true, decide_eq_true_eq] at h
 obtain ⟨o, ho⟩ := Option.isSome_iff_exists.1 h.2
 exact ⟨a.toNat, o, by omega, ho⟩
theorem has_of {m : HM} {k : Nat} {o : Ob} (h : m.ob k = some o) : m.has (k : Int) = true := by simp [HM.has, h]
theorem hasB_neg {L : List Nat} {i : Int} (h : i < 0) : getS L i = -1 := by
 unfold getS
 have : hasB L i = false := decide_eq_false (by omega)
 rw [this]; rfl
theorem tdiv2_neg {a : Int} (h : a < 0) (h2 : a.tmod 2 = 0) : a.tdiv 2 < 0 := by
 obtain ⟨n, rfl⟩ : ∃ n : Nat, a = -(n : Int) := ⟨(-a).toNat, by omega⟩
 rw [Int.neg_tmod, Int.tmod_eq_emod_of_nonneg (by omega)] at h2
 rw [Int.neg_tdiv, Int.tdiv_eq_ediv_of_nonneg (by omega)]
 omega
theorem getS_nat (L : List Nat) (k : Nat) : getS L (k : Int) = if k < L.length then ((ent L k : Nat) : Int) else -1 := by
 unfold getS
 by_cases h : k < L.length
 · rw [hasB_of h, if_pos h]; rfl
 · have : hasB L (k : Int) = false := decide_eq_false (by omega)
   rw [this, if_neg h]; rfl
section
variable {w w' : World} {b : HB} {r : RM} {m : HM} {q : Nat}
theorem Abs.wl (A : Abs r m) (R : Raw w b r) : r.ws.length = m.n := by rw [R.wl, A.bl]; rfl
theorem Abs.pair1 (A : Abs r m) (R : Raw w b r) (k : Nat) (he : k % 2 = 0) : (getS r.ps ((k : Int) / 2) == 1) = (m.ob k).isSome := by
 rw [show ((k : Int) / 2) = ((k / 2 : Nat) : Int) by omega, getS_nat]
 have h1 := (A.rep.p_one A.inv (k / 2))
 rw [show 2 * (k / 2) = k by omega] at h1
 split
 · rw [Bool.eq_iff_iff, ← h1, beq_iff_eq]; omega
 · rename_i hk
   rcases ho : m.ob k with _ | o
   · rfl
   · have h2 := A.inv.hi ho
     have h3 := (A.inv.ok _ _ ho).wd_bd
     have h4 := R.pl
     have h5 := A.bl
     unfold HM.n at h2
     rw [← h5] at h2
     omega
theorem h_has (h : SH w b q m) (a : Int) (ha : W64 a) :
   Calls Tryz.prog 143 #[.pointer (some ⟨b.g, 0, none⟩), .int .i64 a] w fun e w' => e = .returned (.bool (m.has a)) ∧ ∃ m, w' = w.drewN m := by
 obtain ⟨r, R, A, _⟩ := h
 have hc := R.c2
 have hl1 := ha.1
 have hl2 := ha.2
 clear ha
 by_cases hn : a < 0
 · have e : m.has a = false := by unfold HM.has; rw [decide_eq_false (by omega)]; rfl
   rw [e]; clear e
   by_cases h2 : a.tmod 2 = 0
   · have e0 : (a.tmod 2 == 0) = true := beq_iff_eq.2 h2
     have e1 : (getS r.ps (a.tdiv 2) == 1) = false := by
       rw [hasB_neg (tdiv2_neg hn h2)]; rfl
     clear h2
     go_enter Tryz.func143, Tryz.ntmps143
     go_wp2_with (first | (go_at_call 55; refine (h_made R).mono ?_; rintro e w' ⟨rfl, n1, rfl⟩) | (go_at_call 178; refine (get_any (w := w.drewN _) R.TP _).mono ?_; rintro e w' ⟨rfl, n2, rfl⟩))
     go_ret
     exact ⟨rfl, _, rfl⟩
   · have e0 : (a.tmod 2 == 0) = false := beq_eq_false_iff_ne.2 h2
     clear h2
     go_enter Tryz.func143, Tryz.ntmps143
     go_wp2_with (first | (go_at_call 55; refine (h_made R).mono ?_; rintro e w' ⟨rfl, n1, rfl⟩))
     go_ret
     exact ⟨rfl, _, rfl⟩
 · obtain ⟨k, rfl⟩ : ∃ k : Nat, a = (k : Int) := ⟨a.toNat, by omega⟩
   clear hn
   by_cases h2 : k % 2 = 0
   · have e0 : ((k : Int) % 2 == 0) = true := beq_iff_eq.2 (by omega)
     have e1 := A.pair1 R k h2
     have e2 : m.has (k : Int) = (m.ob k).isSome := by simp [HM.has]
     rw [e2]; clear e2
     rcases hs : (m.ob k).isSome
     all_goals
       rw [hs] at e1
       clear hs h2
       go_enter Tryz.func143, Tryz.ntmps143
       go_wp2_with (first | (go_at_call 55; refine (h_made R).mono ?_; rintro e w' ⟨rfl, n1, rfl⟩) | (go_at_call 178; refine (get_any (w := w.drewN _) R.TP _).mono ?_; rintro e w' ⟨rfl, n2, rfl⟩))
       go_ret
       exact ⟨rfl, _, rfl⟩
   · have e0 : ((k : Int) % 2 == 0) = false := beq_eq_false_iff_ne.2 (by omega)
     have e2 : m.has (k : Int) = false := by
       rcases ho : m.has (k : Int)
       · rfl
       · obtain ⟨k', o, hk, ho⟩ := has_nat ho
         have := A.inv.even _ _ ho
         omega
     rw [e2]; clear e2 h2
     go_enter Tryz.func143, Tryz.ntmps143
     go_wp2_with (first | (go_at_call 55; refine (h_made R).mono ?_; rintro e w' ⟨rfl, n1, rfl⟩))
     go_ret
     exact ⟨rfl, _, rfl⟩
theorem SH.made (h : SH w b q m) : Calls Tryz.prog 55 #[.pointer (some ⟨b.g, 0, none⟩)] w fun e w' => e = .returned (.bool true) ∧ ∃ m, w' = w.drewN m := by
 obtain ⟨r, R, _⟩ := h
 exact h_made R
def HM.lackE (m : HM) (a : Int) : Int := if m.has a then 0 else 4
theorem h_check (h : SH w b q m) (a : Int) (ha : W64 a) :
   Calls Tryz.prog 112 #[.pointer (some ⟨b.g, 0, none⟩), .int .i64 a] w fun e w' => e = .returned (.int .i64 (m.lackE a)) ∧ ∃ m, w' = w.drewN m := by
 have HA := hid ha
 clear ha
 rcases hb : m.has a
 · have e : m.lackE a = 4 := by simp [HM.lackE, hb]
   rw [e]; clear e
   go_enter Tryz.func112, Tryz.ntmps112
   go_wp2_with (first | (go_at_call 55; refine h.made.mono ?_; rintro e w' ⟨rfl, n1, rfl⟩) | (go_at_call 143; refine (h_has (h.drewN _) _ HA.out).mono ?_; rintro e w' ⟨rfl, n2, rfl⟩))
   go_ret
   exact ⟨rfl, _, rfl⟩
 · have e : m.lackE a = 0 := by simp [HM.lackE, hb]
   rw [e]; clear e
   go_enter Tryz.func112, Tryz.ntmps112
   go_wp2_with (first | (go_at_call 55; refine h.made.mono ?_; rintro e w' ⟨rfl, n1, rfl⟩) | (go_at_call 143; refine (h_has (h.drewN _) _ HA.out).mono ?_; rintro e w' ⟨rfl, n2, rfl⟩))
   go_ret
   exact ⟨rfl, _, rfl⟩
def HM.pinned (m : HM) (a : Int) : Bool := decide (0 ≤ a) && (match m.ob a.toNat with | some o => o.pin | none => false)
theorem h_pinned (h : SH w b q m) (a : Int) (ha : W64 a) :
   Calls Tryz.prog 123 #[.pointer (some ⟨b.g, 0, none⟩), .int .i64 a] w fun e w' => e = .returned (.bool (m.pinned a)) ∧ ∃ m, w' = w.drewN m := by
 rcases hb : m.has a
 · have e : m.pinned a = false := by
     unfold HM.has at hb
     unfold HM.pinned
     by_cases hn : 0 ≤ a
     · rw [decide_eq_true hn] at hb ⊢
       rcases ho : m.ob a.toNat with _ | o
       · rfl
       · rw [ho] at hb; cases hb
     · rw [decide_eq_false hn]; rfl
   rw [e]; clear e
   have HA := hid ha
   clear ha
   go_enter Tryz.func123, Tryz.ntmps123
   go_wp2_with (go_at_call 143; refine (h_has h _ HA.out).mono ?_; rintro e w' ⟨rfl, n2, rfl⟩)
   go_ret
   exact ⟨rfl, _, rfl⟩
 · obtain ⟨k, o, rfl, ho⟩ := has_nat hb
   have e : m.pinned (k : Int) = o.pin := by simp [HM.pinned, ho]
   rw [e]; clear e
   have h0 := h
   obtain ⟨r, R, A, _⟩ := h
   have hc := R.c3
   have hk := ha.2
   have he := A.inv.even _ _ ho
   have e1 : (getS r.pn ((k : Int) / 2) == 1) = o.pin := by
     have h1 := A.rep.n_ob _ _ ho
     have h2 := A.inv.hi ho
     have h3 := (A.inv.ok _ _ ho).wd_bd
     have h4 := R.nl
     have h5 := A.bl
     unfold HM.n at h2
     rw [← h5] at h2
     rw [show ((k : Int) / 2) = ((k / 2 : Nat) : Int) by omega, getS_nat, if_pos (by omega), h1]
     rcases o.pin <;> rfl
   have HA := hid ha
   clear ha he A
   generalize o.pin = p at e1
   rcases p
   all_goals
     go_enter Tryz.func123, Tryz.ntmps123
     go_wp2_with (first | (go_at_call 143; refine (h_has h0 _ HA.out).mono ?_; rintro e w' ⟨rfl, n2, rfl⟩) | (go_at_call 178; refine (get_any (w := w.drewN _) R.TN _).mono ?_; rintro e w' ⟨rfl, n2, rfl⟩))
     go_ret
     exact ⟨rfl, _, rfl⟩
def HM.ownI (m : HM) (a : Int) : Nat := if 0 ≤ a then m.own a.toNat else 0
theorem own_far {m : HM} (I : m.Inv) {k : Nat} (h : m.n ≤ k) : m.own k = 0 := by
 refine own_gap ?_
 rintro ⟨a, o, h0, h1, h2⟩
 have := I.hi h0
 omega
theorem h_owner (h : SH w b q m) (a : Int) (ha : W64 a) :
   Calls Tryz.prog 175 #[.pointer (some ⟨b.g, 0, none⟩), .int .i64 a] w fun e w' => e = .returned (.int .i64 ((m.ownI a : Nat) : Int)) ∧ ∃ m, w' = w.drewN m := by
 obtain ⟨r, R, A, _⟩ := h
 have hc := R.c2
 have hl1 := ha.1
 have hl2 := ha.2
 clear ha
 have hwl := A.wl R
 have hnb := A.inv.n_bd
 by_cases hin : 0 ≤ a ∧ a < (r.ws.length : Int)
 · obtain ⟨k, rfl⟩ : ∃ k : Nat, a = (k : Int) := ⟨a.toNat, by omega⟩
   have hk : k < m.n := by omega
   have hpl : r.ps.length * 2 = m.n := by have := R.pl; have := A.bl; unfold HM.n; rw [← this]; omega
   have HI : Hid (inB r.ws.length (k : Int) = true) := decide_eq_true hin
   have e : m.ownI (k : Int) = m.own k := by simp [HM.ownI]
   rw [e]; clear e
   have hg : getS r.ps ((k : Int) / 2) = ((ent r.ps (k / 2) : Nat) : Int) := by
     rw [show ((k : Int) / 2) = ((k / 2 : Nat) : Int) by omega, getS_nat, if_pos (by omega)]
   rcases own_cases A.inv k with ⟨a0, o, h0, h1, h2, h3⟩ | ⟨h1, h2⟩
   · have he := A.inv.even _ _ h0
     have hw := (A.inv.ok _ _ h0).wd_bd
     have e1 : (getS r.ps ((k : Int) / 2) == 0) = false := by
       rw [hg]
       have := (A.rep.p_zero A.inv (k / 2))
       refine beq_eq_false_iff_ne.2 fun hc => (this.1 (by omega)) ⟨a0, o, h0, by omega, by omega⟩
     have e2 : lastN (lastP r.ps ((k : Int) / 2 + 1) 1) r.ps.length = some (a0 / 2) := by
       refine lastN_some (by omega) ?_ ?_
       · unfold lastP
         rw [decide_eq_true (by omega), decide_eq_true (by have := A.rep.p_ob _ _ h0; omega)]; rfl
       · intro j hj hj2
         unfold lastP
         by_cases hj3 : (j : Int) < (k : Int) / 2 + 1
         · have := A.rep.p_in _ _ h0 j (by omega) (by omega)
           rw [decide_eq_false (p := ((ent r.ps j : Nat) : Int) = 1) (by omega), Bool.and_false]
         · rw [decide_eq_false hj3]; rfl
     have e3 : lastV r.ps ((k : Int) / 2 + 1) 1 = ((a0 / 2 : Nat) : Int) := by unfold lastV; rw [e2]; rfl
     have e4 : (((a0 / 2 : Nat) : Int)) * 2 = (a0 : Int) := by omega
     have hlo : a0 / 2 ≤ 4096 := by omega
     rw [h3]
     generalize hx : a0 / 2 = x at e3 e4 hlo
     have H3 := hid e3
     have H4 := hid e4
     clear e2 e3 e4 hin hg h3 he hwl hpl hx
     go_enter Tryz.func175, Tryz.ntmps175
     go_wp2_with (first | (go_at_call 122; refine (h_hasWord R _).mono ?_; rintro e w' ⟨rfl, n1, rfl⟩; rw [HI.out]) | (go_at_call 178; refine (get_any (w := w.drewN _) R.TP _).mono ?_; rintro e w' ⟨rfl, n2, rfl⟩) | (go_at_call 183; refine (last_any (w := w.drewN _) R.TP _ _).mono ?_; rintro e w' ⟨rfl, n3, rfl⟩; rw [H3.out]))
     go_ret
     rw [H4.out]
     exact ⟨rfl, _, rfl⟩
   · have e1 : (getS r.ps ((k : Int) / 2) == 0) = true := by
       rw [hg]
       have := (A.rep.p_zero A.inv (k / 2)).2 (fun hc => h1 (by
         obtain ⟨a0, o, h0, h3, h4⟩ := hc
         have he := A.inv.even _ _ h0
         have hw := (A.inv.ok _ _ h0).wd_bd
         exact ⟨a0, o, h0, by omega, by omega⟩))
       rw [this]; rfl
     rw [h2]
     clear hin hg hwl hpl h2
     go_enter Tryz.func175, Tryz.ntmps175
     go_wp2_with (first | (go_at_call 122; refine (h_hasWord R _).mono ?_; rintro e w' ⟨rfl, n1, rfl⟩; rw [HI.out]) | (go_at_call 178; refine (get_any (w := w.drewN _) R.TP _).mono ?_; rintro e w' ⟨rfl, n2, rfl⟩))
     go_ret
     exact ⟨rfl, _, rfl⟩
 · have e : m.ownI a = 0 := by
     unfold HM.ownI
     split
     · exact own_far A.inv (by omega)
     · rfl
   rw [e]; clear e
   have HI : Hid (inB r.ws.length a = false) := decide_eq_false hin
   clear hin hwl
   by_cases hn : 0 ≤ a
   all_goals
     go_enter Tryz.func175, Tryz.ntmps175
     go_wp2_with (first | (go_at_call 122; refine (h_hasWord R _).mono ?_; rintro e w' ⟨rfl, n1, rfl⟩; rw [HI.out]))
     go_ret
     exact ⟨rfl, _, rfl⟩
end
open Go.ChangeShapes Go.WideShapes Go.ChangeAt Go.Joins
section
variable {H : Type} {enc : TypeId × Value → H} {W : World} {base : Nat} {spare : Nat → Bool} {held : Bool} {r : Reach} {b0 : Nat}
theorem cellsShape : Tryz.prog.cellsOf 33 = 3 := by kernel_rfl
end
def tkB (m : HM) (own k n : Nat) : Bool := (List.range n).any fun i => decide (m.own (k + 2 * i) ≠ 0 ∧ m.own (k + 2 * i) ≠ own)
theorem tkB_true {m : HM} {own k n i : Nat} (hi : i < n) (h1 : m.own (k + 2 * i) ≠ 0) (h2 : m.own (k + 2 * i) ≠ own) : tkB m own k n = true := by
 unfold tkB
 rw [List.any_eq_true]
 exact ⟨i, List.mem_range.2 hi, decide_eq_true ⟨h1, h2⟩⟩
theorem tkB_false {m : HM} {own k n : Nat} : tkB m own k n = false ↔ ∀ i, i < n → m.own (k + 2 * i) = 0 ∨ m.own (k + 2 * i) = own := by
 unfold tkB
 rw [List.any_eq_false]
 constructor
 · intro h i hi
   have := h i (List.mem_range.2 hi)
   simp only [decide_eq_true_eq] at this
   omega
 · intro h i hi
   have := h i (List.mem_range.1 hi)
   simp only [decide_eq_true_eq]
   omega
def tkE (m : HM) (own k n : Nat) : Int := if tkB m own k n then 8 else 0
def roomE (m : HM) (a : Int) (wd own : Nat) : Int :=
 if 0 ≤ a ∧ a % 2 = 0 ∧ a < (m.n : Int) then (if suitB m.bl a.toNat wd then tkE m own a.toNat (wd / 2) else 5) else 1
theorem roomE_zero {m : HM} {a : Int} {wd own : Nat} (h : roomE m a wd own = 0) : ∃ k : Nat, a = (k : Int) ∧ k % 2 = 0 ∧ k < m.n ∧ suitB m.bl k wd = true ∧ tkB m own k (wd / 2) = false := by
 unfold roomE at h
 split at h
 · split at h
   · unfold tkE at h
     split at h
     · omega
     · refine ⟨a.toNat, by omega, by omega, by omega, by assumption, by simpa using (by assumption : ¬ tkB m own a.toNat (wd / 2) = true)⟩
   · omega
 · omega
section
variable {w w' : World} {b : HB} {r : RM} {m : HM} {q : Nat}
theorem h_suits (h : SH w b q m) (k wd : Nat) (hk : k < m.n) (hw1 : 1 ≤ wd) (hw : wd ≤ 1000) :
   Calls Tryz.prog 174 #[.pointer (some ⟨b.g, 0, none⟩), .int .i64 (k : Int), .int .i64 (wd : Int)] w fun e w' => e = .returned (.bool (suitB m.bl k wd)) ∧ ∃ m, w' = w.drewN m := by
 obtain ⟨r, R, A, _⟩ := h
 rw [← A.bl]
 have hbl : k / 64 < r.bl.length := by unfold HM.n at hk; rw [← A.bl] at hk; omega
 have hc := R.c0
 have hl := R.bl64
 have hl2 := R.cb1
 have hs := R.stc hbl
 by_cases h32 : wd ≤ 32
 · have hx : suitB r.bl k wd = decide ((r.bl.getD (k / 64) (0, 0)).1 = 1 ∧ k % 64 + wd ≤ 64) := by unfold suitB; rw [if_pos h32]
   rw [hx]; clear hx
   generalize (r.bl.getD (k / 64) (0, 0)).1 = s at hs ⊢
   by_cases h1 : s = 1
   · subst h1
     by_cases h2 : k % 64 + wd ≤ 64
     · have e : decide (1 = 1 ∧ k % 64 + wd ≤ 64) = true := decide_eq_true ⟨rfl, h2⟩
       have f : decide ((k : Int) % 64 + (wd : Int) ≤ 64) = true := decide_eq_true (by omega)
       rw [e]; clear e
       go_enter Tryz.func174, Tryz.ntmps174
       go_wp2
       go_ret
       exact ⟨rfl, 0, rfl⟩
     · have e : decide (1 = 1 ∧ k % 64 + wd ≤ 64) = false := decide_eq_false (fun h => h2 h.2)
       have f : decide ((k : Int) % 64 + (wd : Int) ≤ 64) = false := decide_eq_false (by omega)
       rw [e]; clear e
       go_enter Tryz.func174, Tryz.ntmps174
       go_wp2
       go_ret
       exact ⟨rfl, 0, rfl⟩
   · have e : decide (s = 1 ∧ k % 64 + wd ≤ 64) = false := decide_eq_false (fun h => h1 h.1)
     have e2 : ((s : Int) == 1) = false := beq_eq_false_iff_ne.2 (by omega)
     rw [e]; clear e h1
     go_enter Tryz.func174, Tryz.ntmps174
     go_wp2
     go_ret
     exact ⟨rfl, 0, rfl⟩
 · have hx : suitB r.bl k wd = decide ((r.bl.getD (k / 64) (0, 0)).1 = 2 ∧ k % 64 = 0 ∧ grpEnd r.bl (k / 64) - k / 64 = (wd + 63) / 64) := by unfold suitB; rw [if_neg h32]
   rw [hx]; clear hx
   have HG := hid (fun (W : World) (RR : Raw W b r) => h_group RR (k / 64) hbl)
   have hge := ((grpEnd_iff r.bl (k / 64) _ hbl).1 rfl)
   have hgl : grpEnd r.bl (k / 64) - k / 64 ≤ 64 := by omega
   generalize (r.bl.getD (k / 64) (0, 0)).1 = s at hs ⊢
   generalize grpEnd r.bl (k / 64) - k / 64 = gl at HG hgl ⊢
   clear hge
   have hup : (wd + 63) / 64 * 64 ≤ 2000 := by omega
   have e5 : (((wd + 63) / 64 * 64 : Nat) : Int) / 64 = (((wd + 63) / 64 : Nat) : Int) := by omega
   have hbd : (wd + 63) / 64 ≤ 20 := by omega
   have HU := hid (fun W : World => h_up64 wd W (by omega))
   generalize hy : (wd + 63) / 64 = y at e5 hup HU hbd ⊢
   clear hy
   have H5 := hid e5
   clear e5
   by_cases h1 : s = 2
   · subst h1
     by_cases h2 : k % 64 = 0
     · have f2 : ((k : Int) % 64 == 0) = true := beq_iff_eq.2 (by omega)
       by_cases h3 : gl = y
       · have e : decide (2 = 2 ∧ k % 64 = 0 ∧ gl = y) = true := decide_eq_true ⟨rfl, h2, h3⟩
         have f3 : ((gl : Int) == (y : Int)) = true := beq_iff_eq.2 (by omega)
         rw [e]; clear e h3 h2
         go_enter Tryz.func174, Tryz.ntmps174
         go_wp2_with (first | (go_at_call 115; refine (HU.out _).mono ?_; rintro e w' ⟨rfl, n1, rfl⟩) | (go_at_call 127; refine (HG.out _ (R.drewN _)).mono ?_; rintro e w' ⟨rfl, n2, rfl⟩; first | rw [H5.out] | skip))
         go_ret
         exact ⟨rfl, _, rfl⟩
       · have e : decide (2 = 2 ∧ k % 64 = 0 ∧ gl = y) = false := decide_eq_false (fun h => h3 h.2.2)
         have f3 : ((gl : Int) == (y : Int)) = false := beq_eq_false_iff_ne.2 (by omega)
         rw [e]; clear e h3 h2
         go_enter Tryz.func174, Tryz.ntmps174
         go_wp2_with (first | (go_at_call 115; refine (HU.out _).mono ?_; rintro e w' ⟨rfl, n1, rfl⟩) | (go_at_call 127; refine (HG.out _ (R.drewN _)).mono ?_; rintro e w' ⟨rfl, n2, rfl⟩; first | rw [H5.out] | skip))
         go_ret
         exact ⟨rfl, _, rfl⟩
     · have f2 : ((k : Int) % 64 == 0) = false := beq_eq_false_iff_ne.2 (by omega)
       have e : decide (2 = 2 ∧ k % 64 = 0 ∧ gl = y) = false := decide_eq_false (fun h => h2 h.2.1)
       rw [e]; clear e h2
       go_enter Tryz.func174, Tryz.ntmps174
       go_wp2_with (first | (go_at_call 115; refine (HU.out _).mono ?_; rintro e w' ⟨rfl, n1, rfl⟩))
       go_ret
       exact ⟨rfl, _, rfl⟩
   · have e : decide (s = 2 ∧ k % 64 = 0 ∧ gl = y) = false := decide_eq_false (fun h => h1 h.1)
     have f1 : ((s : Int) == 2) = false := beq_eq_false_iff_ne.2 (by omega)
     rw [e]; clear e h1
     go_enter Tryz.func174, Tryz.ntmps174
     go_wp2_with (first | (go_at_call 115; refine (HU.out _).mono ?_; rintro e w' ⟨rfl, n1, rfl⟩))
     go_ret
     exact ⟨rfl, _, rfl⟩
theorem h_room (h : SH w b q m) (a : Int) (ha : W64 a) (wd own : Nat) (hw1 : 1 ≤ wd) (hw2 : wd % 2 = 0) (hw : wd ≤ 1000) (ho : own ≤ 10000) :
   Calls Tryz.prog 118 #[.pointer (some ⟨b.g, 0, none⟩), .int .i64 a, .int .i64 (wd : Int), .int .i64 (own : Int)] w fun e w' => e = .returned (.int .i64 (roomE m a wd own)) ∧ ∃ m, w' = w.drewN m := by
 have hl1 := ha.1
 have hl2 := ha.2
 clear ha
 have I := h.inv
 have hnb := I.n_bd
 have HWD : ∀ W : World, SH W b q m → ∀ i : Int, Calls Tryz.prog 122 #[.pointer (some ⟨b.g, 0, none⟩), .int .i64 i] W fun e w' => e = .returned (.bool (inB m.n i)) ∧ ∃ m, w' = W.drewN m := by
   intro W hS i
   obtain ⟨r, R, A, _⟩ := hS
   rw [← A.wl R]
   exact h_hasWord R i
 have HW := hid HWD
 clear HWD
 by_cases h1 : 0 ≤ a ∧ a % 2 = 0 ∧ a < (m.n : Int)
 · obtain ⟨k, rfl⟩ : ∃ k : Nat, a = (k : Int) := ⟨a.toNat, by omega⟩
   have hk : k < m.n := by omega
   have er : roomE m (k : Int) wd own = (if suitB m.bl k wd then tkE m own k (wd / 2) else 5) := by
     unfold roomE; rw [if_pos h1, Int.toNat_natCast]
   rw [er]; clear er
   have e0 : ((k : Int) % 2 != 0) = false := by rw [bne_eq_false_iff_eq]; omega
   have HI : Hid (inB m.n (k : Int) = true) := decide_eq_true ⟨by omega, h1.2.2⟩
   have HS := hid (fun W (hS : SH W b q m) => h_suits hS k wd hk hw1 hw)
   clear h1
   rcases hs : suitB m.bl k wd
   · rw [if_neg (by decide)]
     have HB := hid hs
     clear hs
     go_enter Tryz.func118, Tryz.ntmps118
     go_wp2_with (first | (go_at_call 122; refine (HW.out _ h _).mono ?_; rintro e w' ⟨rfl, n1, rfl⟩; rw [HI.out]) | (go_at_call 174; refine (HS.out _ (h.drewN _)).mono ?_; rintro e w' ⟨rfl, n2, rfl⟩; rw [HB.out]))
     go_ret
     exact ⟨rfl, _, rfl⟩
   · rw [if_pos rfl]
     have HB := hid hs
     have hhi := (suit_bd hs).2.1
     have hhi2 : k + wd ≤ 4096 := by unfold HM.n at hnb; omega
     clear hs hhi
     have hw' : wd / 2 * 2 = wd := by omega
     generalize hy : wd / 2 = y at hw' ⊢
     subst hw'
     clear hy
     go_enter Tryz.func118, Tryz.ntmps118
     go_wp2_with (first | (go_at_call 122; refine (HW.out _ h _).mono ?_; rintro e w' ⟨rfl, n1, rfl⟩; rw [HI.out]) | (go_at_call 174; refine (HS.out _ (h.drewN _)).mono ?_; rintro e w' ⟨rfl, n2, rfl⟩; rw [HB.out]))
     go_loopw [9] (fun c wr => ∃ j n : Nat, j ≤ y ∧ c = .int .i64 ((k + 2 * j : Nat) : Int) ∧ wr = w.drewN n ∧ Hid (∀ i, i < j → m.own (k + 2 * i) = 0 ∨ m.own (k + 2 * i) = own)) (fun c _ => (k + 2 * y) - (intOf c).toNat)
     case atStart => exact ⟨0, _, by omega, by simp, rfl, (fun i hi => absurd hi (by omega))⟩
     case round =>
       obtain ⟨j, n, hj, rfl, rfl, HN⟩ := hrel
       by_cases hlt : j < y
       · have e3 : m.ownI ((k + 2 * j : Nat) : Int) = m.own (k + 2 * j) := by unfold HM.ownI; rw [if_pos (by omega), Int.toNat_natCast]
         have H3 := hid e3
         have hob : m.own (k + 2 * j) ≤ 10000 := by
           rcases own_cases I (k + 2 * j) with ⟨a0, o, h0, h1, h2, h3⟩ | ⟨_, h2⟩
           · have := I.hi h0
             have := (I.ok _ _ h0).wd_bd
             omega
           · omega
         have HO := hid (h_owner (h.drewN n) ((k + 2 * j : Nat) : Int) ⟨by omega, by omega⟩)
         have e5 : ((k + 2 * j : Nat) : Int) = (k : Int) + 2 * (j : Int) := by omega
         rw [e5] at HO
         by_cases hz : m.own (k + 2 * j) = 0
         · have HN' : Hid (∀ i, i < j + 1 → m.own (k + 2 * i) = 0 ∨ m.own (k + 2 * i) = own) := fun i hi => by
             by_cases h4 : i < j
             · exact HN.out i h4
             · obtain rfl : i = j := by omega
               exact .inl hz
           rw [hz] at e3
           have H3 := hid e3
           clear e3 hz hob e5
           go_wp2_with (first | (go_at_call 175; refine HO.out.mono ?_; rintro e w' ⟨rfl, n5, rfl⟩; rw [show ((k : Int) + 2 * (j : Int)) = ((k + 2 * j : Nat) : Int) by omega, H3.out]))
           go_roundw
           case rel => exact ⟨j + 1, _, by omega, by go_num, rfl, HN'⟩
           case measure => simp [intOf]; omega
         · by_cases hown : m.own (k + 2 * j) = own
           · have HN' : Hid (∀ i, i < j + 1 → m.own (k + 2 * i) = 0 ∨ m.own (k + 2 * i) = own) := fun i hi => by
               by_cases h4 : i < j
               · exact HN.out i h4
               · obtain rfl : i = j := by omega
                 exact .inr hown
             rw [hown] at e3
             have H3 := hid e3
             have f1 : ((own : Int) != 0) = true := bne_iff_ne.2 (by omega)
             clear e3 hz hob hown e5
             go_wp2_with (first | (go_at_call 175; refine HO.out.mono ?_; rintro e w' ⟨rfl, n5, rfl⟩; rw [show ((k : Int) + 2 * (j : Int)) = ((k + 2 * j : Nat) : Int) by omega, H3.out]))
             go_roundw
             case rel => exact ⟨j + 1, _, by omega, by go_num, rfl, HN'⟩
             case measure => simp [intOf]; omega
           · have et : tkE m own k y = 8 := by unfold tkE; rw [if_pos (tkB_true hlt hz hown)]
             have HT := hid et
             generalize m.own (k + 2 * j) = x at hz hown H3 hob
             have f1 : ((x : Int) != 0) = true := bne_iff_ne.2 (by omega)
             have f2 : ((x : Int) != (own : Int)) = true := bne_iff_ne.2 (by omega)
             clear e3 hz hown et e5
             go_wp2_with (first | (go_at_call 175; refine HO.out.mono ?_; rintro e w' ⟨rfl, n5, rfl⟩; rw [show ((k : Int) + 2 * (j : Int)) = ((k + 2 * j : Nat) : Int) by omega, H3.out]))
             go_ret
             rw [HT.out]
             exact ⟨rfl, _, rfl⟩
       · obtain rfl : j = y := by omega
         have et : tkE m own k j = 0 := by unfold tkE; rw [tkB_false.2 HN.out]; rfl
         have HT := hid et
         clear et
         go_wp2
         go_ret
         rw [HT.out]
         exact ⟨rfl, _, rfl⟩
 · have er : roomE m a wd own = 1 := by unfold roomE; rw [if_neg h1]
   rw [er]; clear er
   by_cases hn : 0 ≤ a
   · by_cases h2 : a % 2 = 0
     · have e0 : (a % 2 != 0) = false := by rw [bne_eq_false_iff_eq]; exact h2
       have HI : Hid (inB m.n a = false) := decide_eq_false (by omega)
       clear h1 h2
       go_enter Tryz.func118, Tryz.ntmps118
       go_wp2_with (first | (go_at_call 122; refine (HW.out _ h _).mono ?_; rintro e w' ⟨rfl, n1, rfl⟩; rw [HI.out]))
       go_ret
       exact ⟨rfl, _, rfl⟩
     · have e0 : (a % 2 != 0) = true := bne_iff_ne.2 h2
       clear h1 h2
       go_enter Tryz.func118, Tryz.ntmps118
       go_wp2
       go_ret
       exact ⟨rfl, 0, rfl⟩
   · by_cases h2 : a.tmod 2 = 0
     · have e0 : (a.tmod 2 != 0) = false := by rw [bne_eq_false_iff_eq]; exact h2
       have HI : Hid (inB m.n a = false) := decide_eq_false (by omega)
       clear h1 h2
       go_enter Tryz.func118, Tryz.ntmps118
       go_wp2_with (first | (go_at_call 122; refine (HW.out _ h _).mono ?_; rintro e w' ⟨rfl, n1, rfl⟩; rw [HI.out]))
       go_ret
       exact ⟨rfl, _, rfl⟩
     · have e0 : (a.tmod 2 != 0) = true := bne_iff_ne.2 h2
       clear h1 h2
       go_enter Tryz.func118, Tryz.ntmps118
       go_wp2
       go_ret
       exact ⟨rfl, 0, rfl⟩
end
end Go.Proofs.YthndilllnneijaaGreat
