/-
  The contracts of package heap's SetRef, SetData, Ref, Data, isField, Poke, Ident, Shape, Find. Conditions: those that stand in each theorem.
-/
import Derived.Test.YtplgbpmldjngoaaHx
namespace Go.Proofs.Ytplgbpmldjngoaa
set_option linter.unusedVariables false
set_option linter.unusedSimpArgs false
open Go.RowKit Go.Deep Go.Maps

def HM.setF (m : HM) (a j : Nat) (v : Int) : HM := match m.ob a with | some o => m.add a (o.setF j v) | none => m
def HM.setRefE (m : HM) (a i t : Int) : Int := if m.refE a i = 0 then (if t = 0 ∨ m.has t = true then 0 else 1) else m.refE a i
def HM.setRefM (m : HM) (a i t : Int) : HM := if m.setRefE a i t = 0 then m.setF a.toNat i.toNat t else m
def HM.setDatM (m : HM) (a i v : Int) : HM := if m.datE a i = 0 then m.setF a.toNat (m.datOff a + i.toNat) v else m
section
variable {w w' : World} {b : HB} {r : RM} {m : HM} {q : Nat}
theorem refE_zero {a i : Int} (h : m.refE a i = 0) : ∃ (k j : Nat) (o : Ob), a = (k : Int) ∧ i = (j : Int) ∧ m.ob k = some o ∧ j < o.refs ∧ m.refV a i = ((k + 2 + j : Nat) : Int) := by
  rcases hb : m.has a
  · simp [HM.refE, hb] at h
  · obtain ⟨k, o, rfl, ho⟩ := has_nat hb
    by_cases hi : 0 ≤ i ∧ i < (o.refs : Int)
    · obtain ⟨j, rfl⟩ : ∃ j : Nat, i = (j : Int) := ⟨i.toNat, by omega⟩
      exact ⟨k, j, o, rfl, rfl, ho, by omega, by simp only [HM.refV, h, if_true]; omega⟩
    · simp [HM.refE, hb, ho, show inB o.refs i = false from decide_eq_false hi] at h
theorem datE_zero {a i : Int} (h : m.datE a i = 0) : ∃ (k j : Nat) (o : Ob), a = (k : Int) ∧ i = (j : Int) ∧ m.ob k = some o ∧ j < o.data ∧ m.datV a i = ((k + 2 + (o.refs + j) : Nat) : Int) ∧ m.datOff a = o.refs := by
  rcases hb : m.has a
  · simp [HM.datE, hb] at h
  · obtain ⟨k, o, rfl, ho⟩ := has_nat hb
    by_cases hi : 0 ≤ i ∧ i < (o.data : Int)
    · obtain ⟨j, rfl⟩ : ∃ j : Nat, i = (j : Int) := ⟨i.toNat, by omega⟩
      have e : m.datOff (k : Int) = o.refs := by simp [HM.datOff, ho]
      exact ⟨k, j, o, rfl, rfl, ho, by omega, by simp only [HM.datV, h, if_true, e]; omega, e⟩
    · simp [HM.datE, hb, ho, show inB o.data i = false from decide_eq_false hi] at h
theorem SH.poke (h : SH w b q m) {a j : Nat} {o : Ob} (ho : m.ob a = some o) (hj : j < o.refs + o.data) (v : Int) {W : World} (k : Kp [] w W) :
    SH (W.setCell ⟨b.hw, a + 2 + j, none⟩ (.int .i64 v)) b q (m.setF a j v) ∧ Kp b.all w (W.setCell ⟨b.hw, a + 2 + j, none⟩ (.int .i64 v)) := by
  obtain ⟨r, R, A, hq1, hq2⟩ := h
  have hok := A.inv.ok _ _ ho
  have hhi := A.inv.hi ho
  have hw := hok.wd_bd
  have hwl := A.wl R
  have hlen := hok.len
  have K : Kp [b.hw] W (W.setCell ⟨b.hw, a + 2 + j, none⟩ (.int .i64 v)) := Kp.cell W ⟨b.hw, a + 2 + j, none⟩ (.int .i64 v)
  have hl : a + 2 + j < r.ws.length := by have := hok.wd_bd; rw [hwl]; unfold Ob.wd at hhi this; have := wdN_bd hok.bd.1 hok.bd.2.1; omega
  have B := (R.kp0 k).Bw.set_ (a + 2 + j) (.int .i64 v)
  rw [zcells_set hl] at B
  have e : m.setF a j v = m.add a (o.setF j v) := by simp [HM.setF, ho]
  rw [e]
  exact ⟨⟨_, (R.kp0 k).setW B (by simp) K, A.setF R ho hj v, hq1, hq2⟩, (k.chain0 K).all b (by simp [HB.all])⟩
theorem SH.wcell (h : SH w b q m) {a j : Nat} {o : Ob} (ho : m.ob a = some o) (hj : j < o.refs + o.data) {W : World} (k : Kp [] w W) :
    ∃ n c : Nat, W.cell? ⟨b.g, 1, none⟩ = some (.slice (some ⟨b.hw, 0, none⟩) n c) ∧ a + 2 + j < n ∧ n ≤ 4096 ∧ W.cell? ⟨b.hw, a + 2 + j, none⟩ = some (.int .i64 (o.fs.getD j 0)) ∧ a + 2 + j ≤ 4096 ∧ W.frozen? ⟨b.hw, a + 2 + j, none⟩ = false := by
  obtain ⟨r, R, A, hq1, hq2⟩ := h
  have hok := A.inv.ok _ _ ho
  have hhi := A.inv.hi ho
  have hwl := A.wl R
  have hlen := hok.len
  have hnb := A.inv.n_bd
  have hl : a + 2 + j < r.ws.length := by have := hok.wd_bd; rw [hwl]; omega
  refine ⟨r.ws.length, r.cw, (R.kp0 k).c1, hl, by omega, ?_, by omega, (R.kp0 k).Bw.frozen _⟩
  rw [(R.kp0 k).word hl]
  have := A.rep.w_ob _ _ ho (2 + j) (by have := hok.wd_bd; omega)
  rw [show a + (2 + j) = a + 2 + j by omega] at this
  rw [this]
  have e : o.word (2 + j) = o.fs.getD j 0 := by
    unfold Ob.word
    rw [if_neg (by omega), if_neg (by omega), show 2 + j - 2 = j by omega]
  rw [e]
set_option maxRecDepth 100000 in
set_option maxHeartbeats 2000000 in
theorem h_setRef (h : SH w b q m) (a i t : Int) (ha : W64 a) (ht : W64 t) :
    Calls Try.prog 92 #[.pointer (some ⟨b.g, 0, none⟩), .int .i64 a, .int .i64 i, .int .i64 t] w fun e w' => e = .returned (.int .i64 (m.setRefE a i t)) ∧ SH w' b q (m.setRefM a i t) ∧ Kp b.all w w' := by
  have HA := hid ha
  have HT := hid ht
  have HC := hid (h_refWord h a i ha)
  clear ha ht
  by_cases hz : m.refE a i = 0
  · obtain ⟨k, j, o, rfl, rfl, ho, hj, hv⟩ := refE_zero hz
    have HZ := hid hz
    have HV := hid hv
    by_cases h1 : t = 0 ∨ m.has t = true
    · have e1 : m.setRefE (k : Int) (j : Int) t = 0 := by unfold HM.setRefE; rw [if_pos hz, if_pos h1]
      have e2 : m.setRefM (k : Int) (j : Int) t = m.setF k j t := by unfold HM.setRefM; rw [if_pos e1, Int.toNat_natCast, Int.toNat_natCast]
      rw [e1, e2]
      have HP : Hid (∀ W, Kp [] w W → _) := fun W k => h.poke ho (j := j) (by omega) t k
      have HW : Hid (∀ W, Kp [] w W → _) := fun W k => h.wcell ho (j := j) (by omega) k
      generalize k + 2 + j = p at HV HP HW
      clear e1 e2 hz hv ho
      by_cases h0 : t = 0
      · subst h0
        clear h1
        go_enter Try.func92, Try.ntmps92
        go_wp2_with (go_at_call 125; refine HC.out.mono ?_; rintro e w2 ⟨rfl, K2⟩; rw [HV.out, HZ.out]; have HK := hid K2; clear K2; obtain ⟨n, c, c1, hpn, hn, c2, hp, c3⟩ := HW.out w2 HK.out)
        go_ret
        exact ⟨rfl, HP.out _ HK.out⟩
      · have h2 : m.has t = true := by rcases h1 with h1 | h1; exact absurd h1 h0; exact h1
        have H2 := hid h2
        have f0 : (t != 0) = true := bne_iff_ne.2 h0
        clear h1 h2 h0
        go_enter Try.func92, Try.ntmps92
        go_wp2_with (first | (go_at_call 125; refine HC.out.mono ?_; rintro e w2 ⟨rfl, K2⟩; rw [HV.out, HZ.out]; have HK := hid K2; clear K2; obtain ⟨n, c, c1, hpn, hn, c2, hp, c3⟩ := HW.out w2 HK.out) | (go_at_call 23; refine (h_has (h.kp0 HK.out) _ HT.out).mono ?_; rintro e w3 ⟨rfl, n3, rfl⟩; rw [H2.out]))
        go_ret
        exact ⟨rfl, HP.out _ (HK.out.drewN _)⟩
    · have e1 : m.setRefE (k : Int) (j : Int) t = 1 := by unfold HM.setRefE; rw [if_pos hz, if_neg h1]
      have e2 : m.setRefM (k : Int) (j : Int) t = m := by unfold HM.setRefM; rw [e1]; rfl
      rw [e1, e2]
      have h2 : m.has t = false := by rcases hb : m.has t; rfl; exact absurd (.inr hb) h1
      have h0 : t ≠ 0 := fun hc => h1 (.inl hc)
      have H2 := hid h2
      have f0 : (t != 0) = true := bne_iff_ne.2 h0
      clear h1 h2 h0 e1 e2 hz hv ho
      go_enter Try.func92, Try.ntmps92
      go_wp2_with (first | (go_at_call 125; refine HC.out.mono ?_; rintro e w2 ⟨rfl, K2⟩; rw [HZ.out]; have HK := hid K2; clear K2) | (go_at_call 23; refine (h_has (h.kp0 HK.out) _ HT.out).mono ?_; rintro e w3 ⟨rfl, n3, rfl⟩; rw [H2.out]))
      go_ret
      exact ⟨rfl, (h.kp0 HK.out).drewN _, (HK.out.drewN _).mono (by simp)⟩
  · have e1 : m.setRefE a i t = m.refE a i := by unfold HM.setRefE; rw [if_neg hz]
    have e2 : m.setRefM a i t = m := by unfold HM.setRefM; rw [if_neg (by rw [e1]; exact hz)]
    rw [e1, e2]
    have f1 : (m.refE a i != 0) = true := bne_iff_ne.2 hz
    clear hz e1 e2
    go_enter Try.func92, Try.ntmps92
    go_wp2_with (go_at_call 125; refine HC.out.mono ?_; rintro e w2 ⟨rfl, K2⟩; have HK := hid K2; clear K2)
    go_ret
    exact ⟨rfl, h.kp0 HK.out, HK.out.mono (by simp)⟩
set_option maxRecDepth 100000 in
set_option maxHeartbeats 2000000 in
theorem h_setData (h : SH w b q m) (a i v : Int) (ha : W64 a) :
    Calls Try.prog 93 #[.pointer (some ⟨b.g, 0, none⟩), .int .i64 a, .int .i64 i, .int .i64 v] w fun e w' => e = .returned (.int .i64 (m.datE a i)) ∧ SH w' b q (m.setDatM a i v) ∧ Kp b.all w w' := by
  have HC := hid (h_dataWord h a i ha)
  clear ha
  by_cases hz : m.datE a i = 0
  · obtain ⟨k, j, o, rfl, rfl, ho, hj, hv, hf⟩ := datE_zero hz
    have HZ := hid hz
    have HV := hid hv
    have e2 : m.setDatM (k : Int) (j : Int) v = m.setF k (o.refs + j) v := by unfold HM.setDatM; rw [if_pos hz, Int.toNat_natCast, Int.toNat_natCast, hf]
    rw [e2]
    have HP : Hid (∀ W, Kp [] w W → _) := fun W k => h.poke ho (j := o.refs + j) (by omega) v k
    have HW : Hid (∀ W, Kp [] w W → _) := fun W k => h.wcell ho (j := o.refs + j) (by omega) k
    generalize k + 2 + (o.refs + j) = p at HV HP HW
    clear e2 hz hv ho
    go_enter Try.func93, Try.ntmps93
    go_wp2_with (go_at_call 126; refine HC.out.mono ?_; rintro e w2 ⟨rfl, K2⟩; rw [HV.out, HZ.out]; have HK := hid K2; clear K2; obtain ⟨n, c, c1, hpn, hn, c2, hp, c3⟩ := HW.out w2 HK.out)
    go_ret
    rw [HZ.out]
    exact ⟨rfl, HP.out _ HK.out⟩
  · have e2 : m.setDatM a i v = m := by unfold HM.setDatM; rw [if_neg hz]
    rw [e2]
    have f1 : (m.datE a i != 0) = true := bne_iff_ne.2 hz
    clear hz e2
    go_enter Try.func93, Try.ntmps93
    go_wp2_with (go_at_call 126; refine HC.out.mono ?_; rintro e w2 ⟨rfl, K2⟩; have HK := hid K2; clear K2)
    go_ret
    exact ⟨rfl, h.kp0 HK.out, HK.out.mono (by simp)⟩
/-- A reference, a data word. -/
def HM.fget (m : HM) (a j : Nat) : Int := match m.ob a with | some o => o.fs.getD j 0 | none => 0
def HM.refG (m : HM) (a i : Int) : Int := if m.refE a i = 0 then m.fget a.toNat i.toNat else 0
def HM.datG (m : HM) (a i : Int) : Int := if m.datE a i = 0 then m.fget a.toNat (m.datOff a + i.toNat) else 0
set_option maxRecDepth 100000 in
set_option maxHeartbeats 2000000 in
theorem h_ref (h : SH w b q m) (a i : Int) (ha : W64 a) :
    Calls Try.prog 71 #[.pointer (some ⟨b.g, 0, none⟩), .int .i64 a, .int .i64 i] w fun e w' => e = .returned (.tuple #[.int .i64 (m.refG a i), .int .i64 (m.refE a i)]) ∧ Kp [] w w' := by
  have HC := hid (h_refWord h a i ha)
  clear ha
  by_cases hz : m.refE a i = 0
  · obtain ⟨k, j, o, rfl, rfl, ho, hj, hv⟩ := refE_zero hz
    have HZ := hid hz
    have HV := hid hv
    have e2 : m.refG (k : Int) (j : Int) = o.fs.getD j 0 := by unfold HM.refG; rw [if_pos hz, Int.toNat_natCast, Int.toNat_natCast]; simp only [HM.fget, ho]
    rw [e2]
    have HW : Hid (∀ W, Kp [] w W → _) := fun W k => h.wcell ho (j := j) (by omega) k
    generalize k + 2 + j = p at HV HW
    generalize o.fs.getD j 0 = y at HW ⊢
    clear e2 hz hv ho
    go_enter Try.func71, Try.ntmps71
    go_wp2_with (go_at_call 125; refine HC.out.mono ?_; rintro e w2 ⟨rfl, K2⟩; rw [HV.out, HZ.out]; have HK := hid K2; clear K2; obtain ⟨n, c, c1, hpn, hn, c2, hp, c3⟩ := HW.out w2 HK.out)
    go_ret2
    rw [HZ.out]
    exact ⟨rfl, HK.out⟩
  · have e2 : m.refG a i = 0 := by unfold HM.refG; rw [if_neg hz]
    rw [e2]
    have f1 : (m.refE a i != 0) = true := bne_iff_ne.2 hz
    clear hz e2
    go_enter Try.func71, Try.ntmps71
    go_wp2_with (go_at_call 125; refine HC.out.mono ?_; rintro e w2 ⟨rfl, K2⟩; have HK := hid K2; clear K2)
    go_ret2
    exact ⟨rfl, HK.out⟩
set_option maxRecDepth 100000 in
set_option maxHeartbeats 2000000 in
theorem h_data (h : SH w b q m) (a i : Int) (ha : W64 a) :
    Calls Try.prog 72 #[.pointer (some ⟨b.g, 0, none⟩), .int .i64 a, .int .i64 i] w fun e w' => e = .returned (.tuple #[.int .i64 (m.datG a i), .int .i64 (m.datE a i)]) ∧ Kp [] w w' := by
  have HC := hid (h_dataWord h a i ha)
  clear ha
  by_cases hz : m.datE a i = 0
  · obtain ⟨k, j, o, rfl, rfl, ho, hj, hv, hf⟩ := datE_zero hz
    have HZ := hid hz
    have HV := hid hv
    have e2 : m.datG (k : Int) (j : Int) = o.fs.getD (o.refs + j) 0 := by unfold HM.datG; rw [if_pos hz, Int.toNat_natCast, Int.toNat_natCast, hf]; simp only [HM.fget, ho]
    rw [e2]
    have HW : Hid (∀ W, Kp [] w W → _) := fun W k => h.wcell ho (j := o.refs + j) (by omega) k
    generalize k + 2 + (o.refs + j) = p at HV HW
    generalize o.fs.getD (o.refs + j) 0 = y at HW ⊢
    clear e2 hz hv ho
    go_enter Try.func72, Try.ntmps72
    go_wp2_with (go_at_call 126; refine HC.out.mono ?_; rintro e w2 ⟨rfl, K2⟩; rw [HV.out, HZ.out]; have HK := hid K2; clear K2; obtain ⟨n, c, c1, hpn, hn, c2, hp, c3⟩ := HW.out w2 HK.out)
    go_ret2
    rw [HZ.out]
    exact ⟨rfl, HK.out⟩
  · have e2 : m.datG a i = 0 := by unfold HM.datG; rw [if_neg hz]
    rw [e2]
    have f1 : (m.datE a i != 0) = true := bne_iff_ne.2 hz
    clear hz e2
    go_enter Try.func72, Try.ntmps72
    go_wp2_with (go_at_call 126; refine HC.out.mono ?_; rintro e w2 ⟨rfl, K2⟩; have HK := hid K2; clear K2)
    go_ret2
    exact ⟨rfl, HK.out⟩
end
end Go.Proofs.Ytplgbpmldjngoaa
