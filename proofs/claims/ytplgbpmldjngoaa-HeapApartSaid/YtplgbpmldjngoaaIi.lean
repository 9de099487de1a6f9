/-
  The contracts of package heap's Used and Space, and of the laws' ints. Conditions: those that stand in each theorem.
-/
import Derived.Test.YtplgbpmldjngoaaIh
import Derived.Deep.RegionHeld3
namespace Go.Proofs.Ytplgbpmldjngoaa
set_option linter.unusedVariables false
set_option linter.unusedSimpArgs false
open Go.RowKit Go.Deep Go.Maps

def HM.psL (m : HM) : List Nat := (List.range (32 * m.bl.length)).map fun j => if (m.ob (2 * j)).isSome then 1 else if m.own (2 * j) = 0 then 0 else 2
def HM.usedV (m : HM) : Int := 2 * ((m.psL.length : Int) - ((cntN (isV m.psL 0) m.psL.length : Nat) : Int))
section
variable {w w' : World} {b : HB} {r : RM} {m : HM} {q : Nat}
theorem Abs.psL (A : Abs r m) (R : Raw w b r) : r.ps = m.psL := by
  have I := A.inv
  have hl : r.ps.length = 32 * m.bl.length := by rw [R.pl, A.bl]
  apply List.ext_getElem (by simp [HM.psL, hl])
  intro j h1 h2
  have e1 : r.ps[j] = ent r.ps j := by unfold ent; rw [List.getD_eq_getElem?_getD, List.getElem?_eq_getElem h1]; rfl
  rw [e1]
  simp only [HM.psL, List.getElem_map, List.getElem_range]
  rcases own_cases I (2 * j) with ⟨a, o, ho, g1, g2, g3⟩ | ⟨g1, g2⟩
  · by_cases ha : a = 2 * j
    · subst ha
      rw [if_pos (by rw [ho]; rfl)]
      have := A.rep.p_ob _ _ ho
      rw [show 2 * j / 2 = j by omega] at this
      exact this
    · have hn : (m.ob (2 * j)).isSome = false := by
        rcases h : m.ob (2 * j) with _ | o'
        · rfl
        · have hw := (I.ok _ _ h).wd_bd
          have := own_cov I h (Nat.le_refl _) (by omega)
          omega
      have := I.lo ho
      rw [hn, if_neg (by decide), if_neg (by omega)]
      exact A.rep.p_in _ _ ho j (by omega) g2
  · have hn : (m.ob (2 * j)).isSome = false := by
      rcases h : m.ob (2 * j) with _ | o'
      · rfl
      · have hw := (I.ok _ _ h).wd_bd
        exact absurd ⟨_, _, h, Nat.le_refl _, by omega⟩ g1
    rw [hn, if_neg (by decide), if_pos g2]
    exact A.rep.p_gap _ g1
structure US (w W : World) (b : HB) (m : HM) : Prop where
  tab : STab W b.pg b.ph 2 m.psL
  c2 : W.cell? ⟨b.g, 2, none⟩ = some (.pointer (some ⟨b.pg, 0, none⟩))
  dr : Kp [] w W
theorem US.step {w W : World} {b : HB} {m : HM} (u : US w W b m) (n : Nat) : US w (W.drewN n) b m := by
  exact ⟨u.tab.kp (Kp.draw _ n) (by simp) (by simp), u.c2, u.dr.drewN n⟩
theorem US.stepK {w W V : World} {b : HB} {m : HM} (u : US w W b m) (k : Kp [] W V) : US w V b m := ⟨u.tab.kp k (by simp) (by simp), cell_kp k u.c2, u.dr.chain k⟩
theorem entries_k {w W : World} {b : HB} {m : HM} (u : US w W b m) : Calls Try.prog 64 #[.pointer (some ⟨b.pg, 0, none⟩)] W fun e w' => e = .returned (.int .i64 (m.psL.length : Int)) ∧ Kp [] W w' := by
  refine (entries_any u.tab).mono ?_
  rintro e w' ⟨rfl, n, rfl⟩
  exact ⟨rfl, Kp.draw _ _⟩
theorem count_k {w W : World} {b : HB} {m : HM} (u : US w W b m) : Calls Try.prog 69 #[.pointer (some ⟨b.pg, 0, none⟩), .int .i64 0] W fun e w' => e = .returned (.int .i64 ((cntN (isV m.psL 0) m.psL.length : Nat) : Int)) ∧ Kp [] W w' := by
  refine (count_any u.tab 0).mono ?_
  rintro e w' ⟨rfl, n, rfl⟩
  exact ⟨rfl, Kp.draw _ _⟩
set_option maxHeartbeats 1000000 in
theorem h_used (h : SH w b q m) :
    Calls Try.prog 20 #[.pointer (some ⟨b.g, 0, none⟩)] w fun e w' => e = .returned (.int .i64 m.usedV) ∧ Kp [] w w' := by
  have h0 := h
  obtain ⟨r, R, A, _⟩ := h
  have hps := A.psL R
  have hl64 := A.inv.len64
  have hl : m.psL.length = 32 * m.bl.length := by simp [HM.psL]
  have hc := R.c2
  have hle := cntN_le (isV m.psL 0) m.psL.length
  have HU0 : Hid (∀ n, US w (w.drewN n) b m) := fun n => ⟨by rw [← hps]; exact (R.drewN n).TP, (R.drewN n).c2, Kp.draw _ _⟩
  have HU : Hid (m.usedV = 2 * ((m.psL.length : Int) - ((cntN (isV m.psL 0) m.psL.length : Nat) : Int))) := rfl
  have hb1 : m.psL.length ≤ 2048 := by omega
  have HLE := hid hle
  clear R A hc hps hl
  go_enter Try.func20, Try.ntmps20
  go_wp2_with (fail)
  refine h0.made.mono ?_
  rintro e w1 ⟨rfl, n1, rfl⟩
  have U0 := HU0.out n1
  clear HU0
  generalize w.drewN n1 = W1 at U0 ⊢
  have hc := U0.c2
  have U9 : US w W1.drew b m := U0.step 1
  have hc1 : W1.drew.cell? ⟨b.g, 2, none⟩ = some (.pointer (some ⟨b.pg, 0, none⟩)) := U9.c2
  clear U0
  go_wp2
  go_region_held3 (fun W => W.cell? ⟨b.g, 2, none⟩ = some (.pointer (some ⟨b.pg, 0, none⟩))) (go_keep)
    (first
      | (go_at_call 64; refine (entries_k (w := w) (by assumption)).mono ?_; rintro e w5 ⟨rfl, K5⟩; have U1 := US.stepK (w := w) (by assumption) K5; have t1 := U1.c2; clear K5)
      | (go_at_call 69; refine (count_k (w := w) (by assumption)).mono ?_; rintro e w6 ⟨rfl, K6⟩; have U2 := US.stepK (w := w) (by assumption) K6; have t2 := U2.c2; clear K6))
  all_goals (
    go_wp2
    go_ret
    rw [HU.out]
    have hl1 := HLE.out
    have g1 : IntKind.i64.wrap ((m.psL.length : Int) - ((cntN (isV m.psL 0) m.psL.length : Nat) : Int)) = (m.psL.length : Int) - ((cntN (isV m.psL 0) m.psL.length : Nat) : Int) := by rw [IntKind.wrap_i64]; omega
    have g2 : IntKind.i64.wrap (2 * ((m.psL.length : Int) - ((cntN (isV m.psL 0) m.psL.length : Nat) : Int))) = 2 * ((m.psL.length : Int) - ((cntN (isV m.psL 0) m.psL.length : Nat) : Int)) := by rw [IntKind.wrap_i64]; omega
    rw [g1, g2]
    exact ⟨rfl, US.dr (by assumption)⟩)
theorem h_space (h : SH w b q m) (i : Int) :
    Calls Try.prog 90 #[.pointer (some ⟨b.g, 0, none⟩), .int .i64 i] w fun e w' => e = .returned (.int .i64 (if inB m.bl.length i then (m.sp i.toNat : Int) else -1)) ∧ ∃ n, w' = w.drewN n := by
  obtain ⟨r, R, A, _⟩ := h
  have hbl := A.bl
  rcases hb : inB m.bl.length i
  · rw [if_neg (by decide)]
    have HB : Hid (inB r.bl.length i = false) := by rw [hbl]; exact hb
    clear hb
    go_enter Try.func90, Try.ntmps90
    go_wp2_with (first | (go_at_call 62; refine (h_made R).mono ?_; rintro e w' ⟨rfl, n1, rfl⟩) | (go_at_call 65; refine (h_hasBlock (R.drewN _) _).mono ?_; rintro e w' ⟨rfl, n2, rfl⟩; rw [HB.out]))
    go_ret
    exact ⟨rfl, _, rfl⟩
  · rw [if_pos rfl]
    have h0 := of_decide_eq_true hb
    obtain ⟨k, rfl⟩ : ∃ k : Nat, i = (k : Int) := ⟨i.toNat, by omega⟩
    have HB : Hid (inB r.bl.length (k : Int) = true) := by rw [hbl]; exact hb
    have hk : k < r.bl.length := by rw [hbl]; omega
    have hc := R.c0
    have hs := R.spc hk
    have hl := R.bl64
    rw [hbl] at hs
    have e : ((m.sp ((k : Int).toNat) : Nat) : Int) = (((m.bl.getD k (0, 0)).2 : Nat) : Int) := rfl
    rw [e]
    generalize (m.bl.getD k (0, 0)).2 = x at hs ⊢
    clear hb h0 e hbl
    go_enter Try.func90, Try.ntmps90
    go_wp2_with (first | (go_at_call 62; refine (h_made R).mono ?_; rintro e w' ⟨rfl, n1, rfl⟩) | (go_at_call 65; refine (h_hasBlock (R.drewN _) _).mono ?_; rintro e w' ⟨rfl, n2, rfl⟩; rw [HB.out]))
    go_ret
    exact ⟨rfl, _, rfl⟩
theorem ints_yes {w : World} {B B' : Nat} {v v' : Value} {zs : List Int} (h : FarI w B v zs) (h' : FarI w B' v' zs) (hl : zs.length ≤ 1000000) :
    Calls Try.prog 24 #[v, v'] w fun e w' => e = .returned (.bool true) ∧ ∃ m, w' = w.drewN m := by
  obtain ⟨A, cap, rfl, hA1, hA2, hA⟩ := h
  obtain ⟨A', cap', rfl, hB1, hB2, hA'⟩ := h'
  unfold maxLen at hA2 hB2
  have HA := hid hA
  have HA' := hid hA'
  clear hA hA'
  go_enter Try.func24, Try.ntmps24
  go_wp2
  go_loopw [5] (fun c wr => ∃ k n : Nat, k ≤ zs.length ∧ c = .int .i64 (k : Int) ∧ wr = w.drewN n) (fun c _ => zs.length - (intOf c).toNat)
  case atStart => exact ⟨0, 0, by omega, rfl, rfl⟩
  case round =>
    obtain ⟨k, n, hk, rfl, rfl⟩ := hrel
    by_cases hlt : k < zs.length
    · obtain ⟨g, rfl, _, c0⟩ := HA.out k hlt
      obtain ⟨g', rfl, _, d0⟩ := HA'.out k hlt
      clear HA HA'
      go_wp2
      go_quiet (fail)
      go_wp2
      go_roundw
      case rel => exact ⟨k + 1, _, by omega, by go_num, rfl⟩
      case measure => simp [intOf]; omega
    · obtain rfl : k = zs.length := by omega
      go_wp2
      go_ret
      exact ⟨rfl, _, rfl⟩
end
end Go.Proofs.Ytplgbpmldjngoaa
