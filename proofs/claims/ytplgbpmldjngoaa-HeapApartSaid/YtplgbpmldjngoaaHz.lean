/-
  The contracts of package heap's isField, Poke, Ident, Shape, Find, Births, Blocks. Conditions: those that stand in each theorem.
-/
import Derived.Test.YtplgbpmldjngoaaHy
namespace Go.Proofs.Ytplgbpmldjngoaa
set_option linter.unusedVariables false
set_option linter.unusedSimpArgs false
open Go.RowKit Go.Deep Go.Maps

/-- Is a word a reference or a data word. -/
def HM.fieldB (m : HM) (a : Int) : Bool := match m.ob (m.ownI a) with | some o => decide ((m.ownI a : Int) + 2 ≤ a ∧ a < (m.ownI a : Int) + 2 + ((o.refs : Int) + (o.data : Int))) | none => false
def HM.pokeE (m : HM) (a : Int) : Int := if inB m.n a then (if m.fieldB a then 0 else 4) else 1
def HM.pokeM (m : HM) (a v : Int) : HM := if m.pokeE a = 0 then m.setF (m.ownI a) (a.toNat - m.ownI a - 2) v else m
section
variable {w w' : World} {b : HB} {r : RM} {m : HM} {q : Nat}
theorem ownI_cases (I : m.Inv) (a : Int) : (∃ (k t : Nat) (o : Ob), a = (k : Int) ∧ m.ob t = some o ∧ t ≤ k ∧ k < t + o.wd ∧ m.ownI a = t ∧ 64 ≤ t) ∨ (m.ownI a = 0 ∧ m.ob 0 = none) := by
  have h0 : m.ob 0 = none := by
    rcases h : m.ob 0 with _ | o
    · rfl
    · have := I.lo h; omega
  by_cases hn : 0 ≤ a
  · obtain ⟨k, rfl⟩ : ∃ k : Nat, a = (k : Int) := ⟨a.toNat, by omega⟩
    rcases own_cases I k with ⟨t, o, h1, h2, h3, h4⟩ | ⟨_, h4⟩
    · exact .inl ⟨k, t, o, rfl, h1, h2, h3, by simpa [HM.ownI] using h4, I.lo h1⟩
    · exact .inr ⟨by simpa [HM.ownI] using h4, h0⟩
  · exact .inr ⟨by simp [HM.ownI, hn], h0⟩
set_option maxRecDepth 100000 in
set_option maxHeartbeats 2000000 in
theorem h_isField (h : SH w b q m) (a : Int) (ha : W64 a) :
    Calls Try.prog 136 #[.pointer (some ⟨b.g, 0, none⟩), .int .i64 a] w fun e w' => e = .returned (.bool (m.fieldB a)) ∧ Kp [] w w' := by
  have HC := hid (h_owner h a ha)
  clear ha
  rcases ownI_cases h.inv a with ⟨k, t, o, rfl, ho, h1, h2, h3, h4⟩ | ⟨h3, h4⟩
  · have hok := h.inv.ok _ _ ho
    have hhi := h.inv.hi ho
    have hnb := h.inv.n_bd
    have hbd := hok.bd
    have hwd := hok.wd_bd
    have e : m.fieldB (k : Int) = decide ((t : Int) + 2 ≤ (k : Int) ∧ (k : Int) < (t : Int) + 2 + ((o.refs : Int) + (o.data : Int))) := by unfold HM.fieldB; rw [h3, ho]
    rw [e]
    have HT := hid h3
    have HO := hid ho
    have e0 : ((t : Int) == 0) = false := beq_eq_false_iff_ne.2 (by omega)
    have hk : (k : Int) ≤ 4096 := by omega
    have ht : (t : Int) ≤ 4096 := by omega
    by_cases c1 : (0 : Int) ≤ (k : Int) - (t : Int) - 2
    · by_cases c2 : (k : Int) - (t : Int) - 2 < (o.refs : Int) + (o.data : Int)
      · rw [decide_eq_true (by omega)]
        clear e h3 ho
        go_enter Try.func136, Try.ntmps136
        go_wp2_with (first | (go_at_call 84; refine HC.out.mono ?_; rintro e w' ⟨rfl, n1, rfl⟩; rw [HT.out]) | (go_at_call 81; refine ((h.drewN _).shape_at HO.out).mono ?_; rintro e w2 ⟨rfl, K2⟩; have HK := hid K2.from_drewN; clear K2))
        go_ret
        exact ⟨rfl, HK.out.chain (Kp.new _ _)⟩
      · rw [decide_eq_false (by omega)]
        have c3 : (o.refs : Int) + (o.data : Int) ≤ (k : Int) - (t : Int) - 2 := by omega
        have HC2 := hid c2
        clear e h3 ho c2
        go_enter Try.func136, Try.ntmps136
        go_wp2_with (first | (go_at_call 84; refine HC.out.mono ?_; rintro e w' ⟨rfl, n1, rfl⟩; rw [HT.out]) | (go_at_call 81; refine ((h.drewN _).shape_at HO.out).mono ?_; rintro e w2 ⟨rfl, K2⟩; have HK := hid K2.from_drewN; clear K2))
        go_ret
        rw [decide_eq_false (Int.not_lt.2 HC2.out)]
        exact ⟨rfl, HK.out.chain (Kp.new _ _)⟩
    · rw [decide_eq_false (by omega)]
      have c3 : decide ((0 : Int) ≤ (k : Int) - (t : Int) - 2) = false := decide_eq_false c1
      have c4 : (k : Int) - (t : Int) - 2 < 0 := by omega
      clear e h3 ho
      go_enter Try.func136, Try.ntmps136
      go_wp2_with (first | (go_at_call 84; refine HC.out.mono ?_; rintro e w' ⟨rfl, n1, rfl⟩; rw [HT.out]) | (go_at_call 81; refine ((h.drewN _).shape_at HO.out).mono ?_; rintro e w2 ⟨rfl, K2⟩; have HK := hid K2.from_drewN; clear K2))
      go_ret
      exact ⟨rfl, HK.out.chain (Kp.new _ _)⟩
  · have e : m.fieldB a = false := by unfold HM.fieldB; rw [h3, h4]
    rw [e]
    have HT := hid h3
    clear e h3 h4
    go_enter Try.func136, Try.ntmps136
    go_wp2_with (first | (go_at_call 84; refine HC.out.mono ?_; rintro e w' ⟨rfl, n1, rfl⟩; rw [HT.out]))
    go_ret
    exact ⟨rfl, Kp.draw _ _⟩
theorem SH.hasWord (h : SH w b q m) (a : Int) {W : World} (k : Kp [] w W) : Calls Try.prog 85 #[.pointer (some ⟨b.g, 0, none⟩), .int .i64 a] W fun e w' => e = .returned (.bool (inB m.n a)) ∧ ∃ n, w' = W.drewN n := by
  obtain ⟨r, R, A, _⟩ := h
  have := h_hasWord (R.kp0 k) a
  rw [A.wl R] at this
  exact this
theorem poke_field {a : Int} (I : m.Inv) (h : m.fieldB a = true) : ∃ (k t j : Nat) (o : Ob), a = (k : Int) ∧ m.ob t = some o ∧ m.ownI a = t ∧ k = t + 2 + j ∧ j < o.refs + o.data := by
  rcases ownI_cases I a with ⟨k, t, o, rfl, ho, h1, h2, h3, h4⟩ | ⟨h3, h4⟩
  · unfold HM.fieldB at h
    rw [h3, ho] at h
    have := of_decide_eq_true h
    exact ⟨k, t, k - t - 2, o, rfl, ho, h3, by omega, by omega⟩
  · unfold HM.fieldB at h
    rw [h3, h4] at h
    cases h
set_option maxRecDepth 100000 in
set_option maxHeartbeats 2000000 in
theorem h_poke (h : SH w b q m) (a v : Int) (ha : W64 a) :
    Calls Try.prog 94 #[.pointer (some ⟨b.g, 0, none⟩), .int .i64 a, .int .i64 v] w fun e w' => e = .returned (.int .i64 (m.pokeE a)) ∧ SH w' b q (m.pokeM a v) ∧ Kp b.all w w' := by
  have HA := hid ha
  rcases hin : inB m.n a
  · have e0 : m.pokeE a = 1 := by simp [HM.pokeE, hin]
    have e1 : m.pokeM a v = m := by simp [HM.pokeM, e0]
    rw [e0, e1]
    have HI := hid hin
    clear hin e0 e1 ha
    go_enter Try.func94, Try.ntmps94
    go_wp2_with (first | (go_at_call 62; refine h.made.mono ?_; rintro e w' ⟨rfl, n1, rfl⟩) | (go_at_call 85; refine (h.hasWord _ (Kp.draw _ _)).mono ?_; rintro e w' ⟨rfl, n2, rfl⟩; rw [HI.out]))
    go_ret
    exact ⟨rfl, h.drewN _, (Kp.draw w _).mono (by simp)⟩
  · have HI := hid hin
    rcases hf : m.fieldB a
    · have e0 : m.pokeE a = 4 := by simp [HM.pokeE, hin, hf]
      have e1 : m.pokeM a v = m := by simp [HM.pokeM, e0]
      rw [e0, e1]
      have HF := hid hf
      clear hin e0 e1 ha hf
      go_enter Try.func94, Try.ntmps94
      go_wp2_with (first | (go_at_call 62; refine h.made.mono ?_; rintro e w' ⟨rfl, n1, rfl⟩) | (go_at_call 85; refine (h.hasWord _ (Kp.draw _ _)).mono ?_; rintro e w' ⟨rfl, n2, rfl⟩; rw [HI.out]) | (go_at_call 136; refine (h_isField (h.drewN _) _ HA.out).mono ?_; rintro e w3 ⟨rfl, K3⟩; rw [HF.out]; have HK := hid K3.from_drewN; clear K3))
      go_ret
      exact ⟨rfl, h.kp0 HK.out, HK.out.mono (by simp)⟩
    · have e0 : m.pokeE a = 0 := by simp [HM.pokeE, hin, hf]
      obtain ⟨k, t, j, o, rfl, ho, h3, h5, hj⟩ := poke_field h.inv hf
      have e1 : m.pokeM (k : Int) v = m.setF t j v := by unfold HM.pokeM; rw [if_pos e0, h3, Int.toNat_natCast, show k - t - 2 = j by omega]
      rw [e0, e1]
      have HF := hid hf
      have HP : Hid (∀ W, Kp [] w W → _) := fun W k => h.poke ho (j := j) hj v k
      have HW : Hid (∀ W, Kp [] w W → _) := fun W k => h.wcell ho (j := j) hj k
      rw [← h5] at HP HW
      clear hin e0 e1 ha hf h5 h3 ho hj
      go_enter Try.func94, Try.ntmps94
      go_wp2_with (first | (go_at_call 62; refine h.made.mono ?_; rintro e w' ⟨rfl, n1, rfl⟩) | (go_at_call 85; refine (h.hasWord _ (Kp.draw _ _)).mono ?_; rintro e w' ⟨rfl, n2, rfl⟩; rw [HI.out]) | (go_at_call 136; refine (h_isField (h.drewN _) _ HA.out).mono ?_; rintro e w3 ⟨rfl, K3⟩; rw [HF.out]; have HK := hid K3.from_drewN; clear K3; obtain ⟨n, c, c1, hpn, hn, c2, hp, c3⟩ := HW.out w3 HK.out))
      go_ret
      exact ⟨rfl, HP.out _ HK.out⟩
def HM.findE (m : HM) (a : Int) : Int := if m.ownI a = 0 then 4 else 0
theorem h_find (h : SH w b q m) (a : Int) (ha : W64 a) :
    Calls Try.prog 28 #[.pointer (some ⟨b.g, 0, none⟩), .int .i64 a] w fun e w' => e = .returned (.tuple #[.int .i64 ((m.ownI a : Nat) : Int), .int .i64 (m.findE a)]) ∧ ∃ n, w' = w.drewN n := by
  have HC : Hid (∀ n, _) := fun n => h_owner (h.drewN n) a ha
  clear ha
  by_cases hz : m.ownI a = 0
  · have e : m.findE a = 4 := by simp [HM.findE, hz]
    rw [e, hz]
    have HZ := hid hz
    clear e hz
    go_enter Try.func28, Try.ntmps28
    go_wp2_with (first | (go_at_call 62; refine h.made.mono ?_; rintro e w' ⟨rfl, n1, rfl⟩) | (go_at_call 84; refine (HC.out _).mono ?_; rintro e w' ⟨rfl, n2, rfl⟩; rw [HZ.out]))
    go_ret2
    exact ⟨rfl, _, rfl⟩
  · have e : m.findE a = 0 := by simp [HM.findE, hz]
    rw [e]
    generalize m.ownI a = x at hz HC ⊢
    have e0 : ((x : Int) == 0) = false := beq_eq_false_iff_ne.2 (by omega)
    clear e hz
    go_enter Try.func28, Try.ntmps28
    go_wp2_with (first | (go_at_call 62; refine h.made.mono ?_; rintro e w' ⟨rfl, n1, rfl⟩) | (go_at_call 84; refine (HC.out _).mono ?_; rintro e w' ⟨rfl, n2, rfl⟩))
    go_ret2
    exact ⟨rfl, _, rfl⟩
theorem h_births (h : SH w b q m) :
    Calls Try.prog 89 #[.pointer (some ⟨b.g, 0, none⟩)] w fun e w' => e = .returned (.int .i64 (m.born : Int)) ∧ ∃ n, w' = w.drewN n := by
  have h0 := h
  obtain ⟨r, R, A, _⟩ := h
  have hc := R.c6
  rw [A.born] at hc
  go_enter Try.func89, Try.ntmps89
  go_wp2_with (first | (go_at_call 62; refine h0.made.mono ?_; rintro e w' ⟨rfl, n1, rfl⟩))
  go_ret
  exact ⟨rfl, _, rfl⟩
theorem h_blocks (h : SH w b q m) :
    Calls Try.prog 15 #[.pointer (some ⟨b.g, 0, none⟩)] w fun e w' => e = .returned (.int .i64 (m.bl.length : Int)) ∧ ∃ n, w' = w.drewN n := by
  have h0 := h
  obtain ⟨r, R, A, _⟩ := h
  have hc := R.c0
  rw [A.bl] at hc
  go_enter Try.func15, Try.ntmps15
  go_wp2_with (first | (go_at_call 62; refine h0.made.mono ?_; rintro e w' ⟨rfl, n1, rfl⟩))
  go_ret
  exact ⟨rfl, _, rfl⟩
end
end Go.Proofs.Ytplgbpmldjngoaa
