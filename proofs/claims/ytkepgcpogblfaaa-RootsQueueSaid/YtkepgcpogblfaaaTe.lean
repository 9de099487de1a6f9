/-
  RootsQueue's walk. Conditions: those that stand in each theorem.
-/
import Derived.Test.YtkepgcpogblfaaaTd
namespace Go.Proofs.Ytkepgcpogblfaaa
set_option linter.unusedVariables false
set_option linter.unusedSimpArgs false
open Go.RowKit Go.Deep Go.Maps

theorem wpList_append_off {W : World} {B : Nat} {v : Value} {zs : List Int} {ops : Array Oper} {rest : List Oper} {o : Oper} {a : Act} {Q : Exit → Act → World → Prop} (hgd : o.guard = none) (s x : Operand)
    (ho : o.op = .call { callee := .builtin .append, args := #[s, x], argTypes := #[34, 34] }) (hty : o.type = 34)
    (hs : a.eval s = v) (h : OffI W B v zs) (hB : B ≤ W.heap.size) (hl : zs.length ≤ 1000) (ad : Addr) (c1 : Nat) (y : Int) (hx : a.eval x = .slice (some ad) 1 c1) (hc : W.cell? ad = some (.int .i64 y))
    (hK : ∀ v' w', OffI w' B v' (zs ++ [y]) → Kp v.ownBlock.toList W w' → (v'.ownBlock = v.ownBlock ∨ v'.ownBlock = some W.heap.size) → wpList Try.prog ops Q rest (a.put o.dst v') w') :
    wpList Try.prog ops Q (o :: rest) a W := by
  refine wpList_plain hgd fun K hK' => ?_
  obtain ⟨v', w', hr, h2, h3, h4⟩ := off_append h hB hl ad c1 hc
  unfold Oper.wp execOp
  simp only [ho, hty, resolve, invoke, builtin, Sem.run_bind, Sem.run_pure, Result.andThen_ok, List.map_toArray, List.map_cons, List.map_nil, hs, hx, hr]
  exact hK' _ _ (hK v' w' h2 h3 h4)
/-- A slice of bools, wherever it lies. -/
def IsB (w : World) (v : Value) : Prop := ∃ A n cap, v = .slice A n cap ∧ n ≤ maxLen ∧ ∀ i, i < n → ∃ g o p, A = some ⟨g, o, none⟩ ∧ w.cell? ⟨g, o + i, none⟩ = some (.bool p)
/-- The roots of the law, and its own queue. -/
structure QS (w : World) (g0 B : Nat) (b : RB) (t : RT) (v : Value) (W : World) : Prop where
  g : b.g = g0
  rr : RR W b t
  off : OffI W B v t.qu
  sep : ∀ g, v.ownBlock = some g → g ∉ b.all
  kp : Kp [] w W
  nb : ∀ x ∈ b.all, w.heap.size ≤ x
  nv : ∀ g, v.ownBlock = some g → w.heap.size ≤ g
  lo : B ≤ W.heap.size
section
variable {w W W' : World} {g0 B : Nat} {b : RB} {t t' : RT} {v : Value}
theorem OffI.lt {zs : List Int} (h : OffI W B v zs) : ∀ g, v.ownBlock = some g → g < W.heap.size := fun g hg => by
  rcases h with ⟨rfl, _⟩ | ⟨g', o, c, cur, rfl, _, b, _⟩
  · simp [Value.ownBlock] at hg
  · simp [Value.ownBlock] at hg; subst hg; exact b.lt
theorem QS.kp0 (h : QS w g0 B b t v W) (k : Kp [] W W') : QS w g0 B b t v W' := ⟨h.g, h.rr.kp0 k, h.off.kp k (by simp), h.sep, h.kp.chain k, h.nb, h.nv, Nat.le_trans h.lo k.size⟩
/-- The state where roots have changed and the queue of the law's own has not yet. -/
structure QH (w : World) (g0 B : Nat) (b : RB) (t : RT) (zs : List Int) (v : Value) (W : World) : Prop where
  g : b.g = g0
  rr : RR W b t
  off : OffI W B v zs
  sep : ∀ g, v.ownBlock = some g → g ∉ b.all
  kp : Kp [] w W
  nb : ∀ x ∈ b.all, w.heap.size ≤ x
  nv : ∀ g, v.ownBlock = some g → w.heap.size ≤ g
  lo : B ≤ W.heap.size
theorem QS.chg (h : QS w g0 B b t v W) (C : ChgP W b t' W') : ∃ b', QH w g0 B b' t' t.qu v W' := by
  obtain ⟨b', e, R, K, hn⟩ := C
  exact ⟨b', e.trans h.g, R, h.off.kp K h.sep, fun g hg hm => by
    rcases hn g hm with h1 | h1
    · exact h.sep g hg h1
    · have := h.off.lt g hg; omega, h.kp.trans K (by simp) (fun x hx => .inr (h.nb x hx)), fun x hx => by
    rcases hn x hx with h1 | h1
    · exact h.nb x h1
    · have := h.kp.size; omega, h.nv, Nat.le_trans h.lo K.size⟩
theorem QH.kp0 {zs : List Int} (h : QH w g0 B b t zs v W) (k : Kp [] W W') : QH w g0 B b t zs v W' := ⟨h.g, h.rr.kp0 k, h.off.kp k (by simp), h.sep, h.kp.chain k, h.nb, h.nv, Nat.le_trans h.lo k.size⟩
theorem QH.same {zs : List Int} (h : QH w g0 B b t zs v W) (e : t.qu = zs) : QS w g0 B b t v W := ⟨h.g, h.rr, by rw [e]; exact h.off, h.sep, h.kp, h.nb, h.nv, h.lo⟩
theorem QH.app {zs : List Int} {y : Int} {v' : Value} (h : QH w g0 B b t zs v W) (e : t.qu = zs ++ [y]) (o : OffI W' B v' (zs ++ [y])) (k : Kp v.ownBlock.toList W W') (hat : v'.ownBlock = v.ownBlock ∨ v'.ownBlock = some W.heap.size) : QS w g0 B b t v' W' :=
  ⟨h.g, h.rr.kp k (fun x hx hm => h.sep x (by simpa using hm) hx), by rw [e]; exact o, fun g hg hm => by
    rcases hat with h1 | h1
    · exact h.sep g (by rw [← h1]; exact hg) hm
    · rw [h1] at hg; injection hg with hg; have := h.rr.lt g hm; omega, h.kp.trans k (by simp) (fun x hx => .inr (h.nv x (by simpa using hx))), h.nb, fun g hg => by
    rcases hat with h1 | h1
    · exact h.nv g (by rw [← h1]; exact hg)
    · rw [h1] at hg; injection hg with hg; have := h.kp.size; omega, Nat.le_trans h.lo k.size⟩
end
theorem off_cut {w w6 : World} {g0 B : Nat} {b6 : RB} {t2 : RT} {gq oq cq : Nat} {cur : Array Value} (q : QH w g0 B b6 t2.popM t2.qu (.slice (some ⟨gq, oq, none⟩) t2.qu.length cq) w6) (hBq : B ≤ gq) (bq : Blk w6 gq 3 cur) (k1 : t2.qu.length ≤ cq) (k2 : cq ≤ 2 ^ 63 - 1) (k3 : oq + cq ≤ cur.size) (k4 : ∀ j, j < t2.qu.length → cur[oq + j]? = some (.int .i64 (t2.qu.getD j 0))) (hlp : 0 < t2.qu.length) :
    (cq = 1 → QS w g0 B b6 t2.popM (.slice (some ⟨gq, oq, none⟩) 0 0) w6) ∧ (cq ≠ 1 → QS w g0 B b6 t2.popM (.slice (some ⟨gq, oq + 1, none⟩) (t2.qu.length - 1) (cq - 1)) w6) := by
  refine ⟨fun h1 => ?_, fun h1 => ?_⟩
  · have hd : t2.qu.drop 1 = [] := List.eq_nil_of_length_eq_zero (by rw [List.length_drop]; omega)
    refine ⟨q.g, q.rr, .inr ⟨gq, oq, 0, cur, ?_, hBq, bq, ?_, Nat.zero_le _, by omega, fun j hj => ?_⟩, q.sep, q.kp, q.nb, q.nv, q.lo⟩
    · show _ = Value.slice _ (t2.qu.drop 1).length _
      rw [hd]; rfl
    · show (t2.qu.drop 1).length ≤ _
      rw [hd]; exact Nat.le_refl _
    · have hj' : j < (t2.qu.drop 1).length := hj
      rw [hd] at hj'; exact absurd hj' (by simp)
  · refine ⟨q.g, q.rr, .inr ⟨gq, oq + 1, cq - 1, cur, ?_, hBq, bq, ?_, by unfold maxLen; omega, by omega, fun j hj => ?_⟩, q.sep, q.kp, q.nb, q.nv, q.lo⟩
    · show _ = Value.slice _ (t2.qu.drop 1).length _
      rw [List.length_drop]
    · show (t2.qu.drop 1).length ≤ _
      rw [List.length_drop]; omega
    · have hj' : j < (t2.qu.drop 1).length := hj
      rw [List.length_drop] at hj'
      show _ = some (Value.int IntKind.i64 ((t2.qu.drop 1).getD j 0))
      rw [show oq + 1 + j = oq + (1 + j) by omega, k4 (1 + j) (by omega)]
      rw [List.getD_eq_getElem?_getD, List.getD_eq_getElem?_getD, List.getElem?_drop]
section
variable {w w' : World}
set_option maxRecDepth 100000 in
set_option maxHeartbeats 4000000 in
theorem queue_ok {va vp : Value} {zs : List Int} (ha : IsI w va zs) (hp : IsB w vp) :
    Calls Try.prog 6 #[va, vp] w (TrueP w) := by
  obtain ⟨A, ca, rfl, _, hA⟩ := ha
  obtain ⟨Ap, np, cp, rfl, hnp, hP⟩ := hp
  have HA := hid hA
  have HP := hid hP
  have HNP := hid hnp
  clear hA hP hnp
  by_cases hz : 100 < zs.length
  · have d1 : decide ((100 : Int) < (zs.length : Int)) = true := decide_eq_true (by omega)
    have d2 : decide (100 < zs.length) = true := decide_eq_true hz
    go_enter Try.func6, Try.ntmps6
    go_wp2_with (fail)
    refine (alive_ok _).mono ?_
    rintro e w2 ⟨rfl, k2⟩
    have HK2 := hid k2
    clear k2
    go_wp2
    go_ret
    exact ⟨rfl, HK2.out⟩
  · have d1 : decide ((100 : Int) < (zs.length : Int)) = false := decide_eq_false (by omega)
    have d2 : decide (100 < zs.length) = false := decide_eq_false hz
    go_enter Try.func6, Try.ntmps6
    go_wp2_with (fail)
    refine (r_new_ok (w := w) 1 (by omega) (by omega)).mono ?_
    rintro e w1 ⟨b, rfl, R1, K1, N1⟩
    have HQ0 : Hid (QS w b.g w1.heap.size b (RT.new 1) (.slice none 0 0) w1) := ⟨rfl, R1, .inl ⟨rfl, rfl⟩, by simp [Value.ownBlock], K1, N1, by simp [Value.ownBlock], Nat.le_refl _⟩
    clear R1 K1 N1 d1 d2
    go_wp2
    go_loopw [7, 8] (fun s7 s8 wr => ∃ (i : Nat) (b' : RB) (t : RT), i ≤ zs.length ∧ s8 = .int .i64 (i : Int) ∧ QS w b.g w1.heap.size b' t s7 wr) (fun _ s8 _ => zs.length - (intOf s8).toNat)
    case atStart => exact ⟨0, b, _, by omega, rfl, HQ0.out⟩
    case round =>
      obtain ⟨i, b', t, hi, rfl, Q⟩ := hrel
      by_cases hlt : i < zs.length
      · obtain ⟨g, o, rfl, q0⟩ := HA.out i hlt
        have HQ := hid Q
        have c0 := cell_kp Q.kp q0
        have hpu := r_push Q.rr (zs.getD i 0)
        rw [Q.g] at hpu
        obtain ⟨x, hx⟩ : ∃ x, x = zs.getD i 0 := ⟨_, rfl⟩
        rw [← hx] at c0 hpu
        have hql := Q.rr.ok.qu
        obtain ⟨A2, c2, h2, _, _⟩ := Q.off.is
        have H2 := hid h2
        subst h2
        have HZ0 : Hid (∀ W, Kp [] w W → W.cell? ⟨g, o + i, none⟩ = some (.int .i64 x)) := fun W k => by rw [hx]; exact cell_kp k q0
        clear q0 hx Q
        by_cases hpi : i < np
        · obtain ⟨gp, op, pb, rfl, cp0⟩ := HP.out i hpi
          have HPC : Hid (∀ W, Kp [] w W → W.cell? ⟨gp, op + i, none⟩ = some (.bool pb)) := fun W k => cell_kp k cp0
          have p0 := HPC.out _ HQ.out.kp
          have hpi2 : (i : Int) < (np : Int) := by omega
          clear cp0
          rcases pb
          · by_cases hx0 : x ≤ 0
            · have e1 : t.pushE x = 1 := by simp [RT.pushE, hx0]
              have HM : Hid (t.pushM x = t) := by show _ = _; simp [RT.pushM, e1]
              have dx : decide ((0 : Int) < x) = false := decide_eq_false (by omega)
              rw [e1] at hpu
              have HPU := hid hpu
              clear hpu e1
              go_wp2_with (fail)
              refine HPU.out.mono ?_
              rintro e w3 ⟨rfl, C3⟩
              obtain ⟨b3, Q3⟩ := HQ.out.chg C3
              rw [HM.out] at Q3
              have HS := hid (Q3.same rfl)
              have HZ3 := HZ0.out _ HS.out.kp
              have pp3 := HPC.out _ (by first | exact HS.out.kp | exact HQ3.out.kp)
              clear C3 Q3 c0 p0
              go_wp2
              go_roundw
              case rel => exact ⟨i + 1, _, _, by omega, by go_num, HS.out⟩
              case measure => simp [intOf]; omega
            · by_cases h64 : 64 ≤ t.qu.length
              · have e1 : t.pushE x = 6 := by simp [RT.pushE, hx0, h64]
                have HM : Hid (t.pushM x = t) := by show _ = _; simp [RT.pushM, e1]
                have dx : decide ((0 : Int) < x) = true := decide_eq_true (by omega)
                have d64 : decide (t.qu.length < 64) = false := decide_eq_false (by omega)
                have d64i : decide ((t.qu.length : Int) < 64) = false := decide_eq_false (by omega)
                rw [e1] at hpu
                have HPU := hid hpu
                clear hpu e1
                go_wp2_with (fail)
                refine HPU.out.mono ?_
                rintro e w3 ⟨rfl, C3⟩
                obtain ⟨b3, Q3⟩ := HQ.out.chg C3
                rw [HM.out] at Q3
                have HS := hid (Q3.same rfl)
                have HZ3 := HZ0.out _ HS.out.kp
                have pp3 := HPC.out _ (by first | exact HS.out.kp | exact HQ3.out.kp)
                clear C3 Q3 c0 p0
                go_wp2
                go_roundw
                case rel => exact ⟨i + 1, _, _, by omega, by go_num, HS.out⟩
                case measure => simp [intOf]; omega
              · have e1 : t.pushE x = 0 := by simp [RT.pushE, hx0, h64]
                have HM : Hid (t.pushM x = { t with qu := t.qu ++ [x] }) := by show _ = _; simp [RT.pushM, e1]
                have dx : decide ((0 : Int) < x) = true := decide_eq_true (by omega)
                have d64 : decide (t.qu.length < 64) = true := decide_eq_true (by omega)
                have d64i : decide ((t.qu.length : Int) < 64) = true := decide_eq_true (by omega)
                rw [e1] at hpu
                have HPU := hid hpu
                clear hpu e1
                go_wp2_with (fail)
                refine HPU.out.mono ?_
                rintro e w3 ⟨rfl, C3⟩
                obtain ⟨b3, Q3⟩ := HQ.out.chg C3
                rw [HM.out] at Q3
                have HQ3 := hid Q3
                have HZ3 := HZ0.out _ HQ3.out.kp
                have HZ4 := HZ0.out (w3.alloc (.cells #[.int .i64 x] 3)) (HQ3.out.kp.chain (Kp.new _ _))
                have HNB : Hid ((w3.alloc (.cells #[.int .i64 x] 3)).cell? ⟨w3.heap.size, 0, none⟩ = some (.int .i64 x)) := (Blk.new w3 3 #[.int .i64 x]).cell 0
                have pp3 := HPC.out _ (by first | exact HS.out.kp | exact HQ3.out.kp)
                clear C3 Q3 c0 p0
                go_wp2_with (first | (at_builtin; go_loud (refine wpList_append_off (B := w1.heap.size) (v := .slice A2 t.qu.length c2) (zs := t.qu) rfl (.tmp 47) (.tmp 52) rfl rfl rfl (HQ3.out.kp0 (Kp.new w3 _)).off (HQ3.out.kp0 (Kp.new w3 _)).lo (by omega) ⟨w3.heap.size, 0, none⟩ 1 x rfl HNB.out ?_; intro v9 w9 ho hk hat; have HS0 := hid ((HQ3.out.kp0 (Kp.new w3 (.cells #[.int .i64 x] 3))).app (zs := t.qu) (y := x) rfl ho hk hat); obtain ⟨A9, n9, h9, _, _⟩ := ho.is; rw [List.length_append, List.length_singleton] at h9; subst h9; have pp9 := HPC.out _ HS0.out.kp; clear ho hk hat)))
                go_roundw
                case rel => exact ⟨i + 1, _, _, by omega, by go_num, HS0.out⟩
                case measure => simp [intOf]; omega
          · by_cases hx0 : x ≤ 0
            · have e1 : t.pushE x = 1 := by simp [RT.pushE, hx0]
              have HM : Hid (t.pushM x = t) := by show _ = _; simp [RT.pushM, e1]
              have dx : decide ((0 : Int) < x) = false := decide_eq_false (by omega)
              rw [e1] at hpu
              have HPU := hid hpu
              clear hpu e1
              go_wp2_with (fail)
              refine HPU.out.mono ?_
              rintro e w3 ⟨rfl, C3⟩
              obtain ⟨b3, Q3⟩ := HQ.out.chg C3
              rw [HM.out] at Q3
              have HS := hid (Q3.same rfl)
              have HZ3 := HZ0.out _ HS.out.kp
              have pp3 := HPC.out _ (by first | exact HS.out.kp | exact HQ3.out.kp)
              clear C3 Q3 c0 p0
              go_wp2_with (fail)
              obtain ⟨t2, ht2⟩ : ∃ t2 : RT, t2 = t := ⟨_, rfl⟩
              rw [← ht2] at HS ⊢
              have hql2 := HS.out.rr.ok.qu
              clear ht2
              have hpo := r_pop HS.out.rr
              rw [HS.out.g] at hpo
              have HPO := hid hpo
              clear hpo
              refine HPO.out.mono ?_
              rintro e w6 ⟨rfl, C6⟩
              obtain ⟨b6, Q6⟩ := HS.out.chg C6
              have HQ6 := hid Q6
              clear C6 Q6
              by_cases hq : t2.qu = []
              · have e1 : t2.popE = 4 := by simp [RT.popE, hq]
                have e2 : t2.popV = 0 := by simp [RT.popV, hq]
                have HE := hid (HQ6.out.same (by simp [RT.popM, hq]))
                rw [e1, e2]
                have hl0 : t2.qu.length = 0 := by rw [hq]; rfl
                rw [hl0] at HE ⊢
                clear e1 e2 hq
                go_wp2
                go_roundw
                case rel => exact ⟨i + 1, _, _, by omega, by go_num, HE.out⟩
                case measure => simp [intOf]; omega
              · obtain ⟨y, ys, hq⟩ : ∃ y ys, t2.qu = y :: ys := by
                  rcases h : t2.qu with _ | ⟨y, ys⟩
                  · exact absurd h hq
                  · exact ⟨y, ys, rfl⟩
                have e1 : t2.popE = 0 := by simp [RT.popE, hq]
                have e2 : t2.popV = y := by simp [RT.popV, hq]
                rw [e1, e2]
                have hlp : 0 < t2.qu.length := by rw [hq]; simp
                have hln : (((t2.qu.length : Nat) : Int) == 0) = false := beq_eq_false_iff_ne.2 (by omega)
                have hln2 : (t2.qu.length == 0) = false := beq_eq_false_iff_ne.2 (by omega)
                rcases HQ6.out.off with ⟨hv, h0⟩ | ⟨gq, oq, cq, cur, hv, hBq, bq, k1, k2, k3, k4⟩
                · rw [hq] at h0; cases h0
                · injection hv with hv1 hv2 hv3
                  have hv4 := hv3.symm
                  clear hv3
                  subst hv1
                  subst hv4
                  have cq0 := (bq.cell oq).trans (k4 0 hlp)
                  rw [show t2.qu.getD 0 0 = y by rw [hq]; rfl] at cq0
                  unfold maxLen at k2
                  have HOFF := hid (off_cut HQ6.out hBq bq k1 k2 k3 k4 hlp)
                  clear e1 e2 hq bq k4
                  by_cases hc1 : cq = 1
                  · subst hc1
                    have hl1 : t2.qu.length = 1 := by omega
                    have HF := hid (HOFF.out.1 rfl)
                    rw [hl1]
                    clear HOFF
                    go_wp2
                    go_roundw
                    case rel => exact ⟨i + 1, _, _, by omega, by go_num, HF.out⟩
                    case measure => simp [intOf]; omega
                  · have HF := hid (HOFF.out.2 hc1)
                    have hcn : ¬ (cq : Int) = 1 := by omega
                    have hq1 : (1 : Int) ≤ (t2.qu.length : Int) := by omega
                    have hqc : (t2.qu.length : Int) ≤ (cq : Int) := by omega
                    clear HOFF
                    go_wp2
                    go_roundw
                    case rel => exact ⟨i + 1, _, _, by omega, by go_num, HF.out⟩
                    case measure => simp [intOf]; omega
            · by_cases h64 : 64 ≤ t.qu.length
              · have e1 : t.pushE x = 6 := by simp [RT.pushE, hx0, h64]
                have HM : Hid (t.pushM x = t) := by show _ = _; simp [RT.pushM, e1]
                have dx : decide ((0 : Int) < x) = true := decide_eq_true (by omega)
                have d64 : decide (t.qu.length < 64) = false := decide_eq_false (by omega)
                have d64i : decide ((t.qu.length : Int) < 64) = false := decide_eq_false (by omega)
                rw [e1] at hpu
                have HPU := hid hpu
                clear hpu e1
                go_wp2_with (fail)
                refine HPU.out.mono ?_
                rintro e w3 ⟨rfl, C3⟩
                obtain ⟨b3, Q3⟩ := HQ.out.chg C3
                rw [HM.out] at Q3
                have HS := hid (Q3.same rfl)
                have HZ3 := HZ0.out _ HS.out.kp
                have pp3 := HPC.out _ (by first | exact HS.out.kp | exact HQ3.out.kp)
                clear C3 Q3 c0 p0
                go_wp2_with (fail)
                obtain ⟨t2, ht2⟩ : ∃ t2 : RT, t2 = t := ⟨_, rfl⟩
                rw [← ht2] at HS ⊢
                have hql2 := HS.out.rr.ok.qu
                clear ht2
                have hpo := r_pop HS.out.rr
                rw [HS.out.g] at hpo
                have HPO := hid hpo
                clear hpo
                refine HPO.out.mono ?_
                rintro e w6 ⟨rfl, C6⟩
                obtain ⟨b6, Q6⟩ := HS.out.chg C6
                have HQ6 := hid Q6
                clear C6 Q6
                by_cases hq : t2.qu = []
                · have e1 : t2.popE = 4 := by simp [RT.popE, hq]
                  have e2 : t2.popV = 0 := by simp [RT.popV, hq]
                  have HE := hid (HQ6.out.same (by simp [RT.popM, hq]))
                  rw [e1, e2]
                  have hl0 : t2.qu.length = 0 := by rw [hq]; rfl
                  rw [hl0] at HE ⊢
                  clear e1 e2 hq
                  go_wp2
                  go_roundw
                  case rel => exact ⟨i + 1, _, _, by omega, by go_num, HE.out⟩
                  case measure => simp [intOf]; omega
                · obtain ⟨y, ys, hq⟩ : ∃ y ys, t2.qu = y :: ys := by
                    rcases h : t2.qu with _ | ⟨y, ys⟩
                    · exact absurd h hq
                    · exact ⟨y, ys, rfl⟩
                  have e1 : t2.popE = 0 := by simp [RT.popE, hq]
                  have e2 : t2.popV = y := by simp [RT.popV, hq]
                  rw [e1, e2]
                  have hlp : 0 < t2.qu.length := by rw [hq]; simp
                  have hln : (((t2.qu.length : Nat) : Int) == 0) = false := beq_eq_false_iff_ne.2 (by omega)
                  have hln2 : (t2.qu.length == 0) = false := beq_eq_false_iff_ne.2 (by omega)
                  rcases HQ6.out.off with ⟨hv, h0⟩ | ⟨gq, oq, cq, cur, hv, hBq, bq, k1, k2, k3, k4⟩
                  · rw [hq] at h0; cases h0
                  · injection hv with hv1 hv2 hv3
                    have hv4 := hv3.symm
                    clear hv3
                    subst hv1
                    subst hv4
                    have cq0 := (bq.cell oq).trans (k4 0 hlp)
                    rw [show t2.qu.getD 0 0 = y by rw [hq]; rfl] at cq0
                    unfold maxLen at k2
                    have HOFF := hid (off_cut HQ6.out hBq bq k1 k2 k3 k4 hlp)
                    clear e1 e2 hq bq k4
                    by_cases hc1 : cq = 1
                    · subst hc1
                      have hl1 : t2.qu.length = 1 := by omega
                      have HF := hid (HOFF.out.1 rfl)
                      rw [hl1]
                      clear HOFF
                      go_wp2
                      go_roundw
                      case rel => exact ⟨i + 1, _, _, by omega, by go_num, HF.out⟩
                      case measure => simp [intOf]; omega
                    · have HF := hid (HOFF.out.2 hc1)
                      have hcn : ¬ (cq : Int) = 1 := by omega
                      have hq1 : (1 : Int) ≤ (t2.qu.length : Int) := by omega
                      have hqc : (t2.qu.length : Int) ≤ (cq : Int) := by omega
                      clear HOFF
                      go_wp2
                      go_roundw
                      case rel => exact ⟨i + 1, _, _, by omega, by go_num, HF.out⟩
                      case measure => simp [intOf]; omega
              · have e1 : t.pushE x = 0 := by simp [RT.pushE, hx0, h64]
                have HM : Hid (t.pushM x = { t with qu := t.qu ++ [x] }) := by show _ = _; simp [RT.pushM, e1]
                have dx : decide ((0 : Int) < x) = true := decide_eq_true (by omega)
                have d64 : decide (t.qu.length < 64) = true := decide_eq_true (by omega)
                have d64i : decide ((t.qu.length : Int) < 64) = true := decide_eq_true (by omega)
                rw [e1] at hpu
                have HPU := hid hpu
                clear hpu e1
                go_wp2_with (fail)
                refine HPU.out.mono ?_
                rintro e w3 ⟨rfl, C3⟩
                obtain ⟨b3, Q3⟩ := HQ.out.chg C3
                rw [HM.out] at Q3
                have HQ3 := hid Q3
                have HZ3 := HZ0.out _ HQ3.out.kp
                have HZ4 := HZ0.out (w3.alloc (.cells #[.int .i64 x] 3)) (HQ3.out.kp.chain (Kp.new _ _))
                have HNB : Hid ((w3.alloc (.cells #[.int .i64 x] 3)).cell? ⟨w3.heap.size, 0, none⟩ = some (.int .i64 x)) := (Blk.new w3 3 #[.int .i64 x]).cell 0
                have pp3 := HPC.out _ (by first | exact HS.out.kp | exact HQ3.out.kp)
                clear C3 Q3 c0 p0
                go_wp2_with (first | (at_builtin; go_loud (refine wpList_append_off (B := w1.heap.size) (v := .slice A2 t.qu.length c2) (zs := t.qu) rfl (.tmp 47) (.tmp 52) rfl rfl rfl (HQ3.out.kp0 (Kp.new w3 _)).off (HQ3.out.kp0 (Kp.new w3 _)).lo (by omega) ⟨w3.heap.size, 0, none⟩ 1 x rfl HNB.out ?_; intro v9 w9 ho hk hat; have HS0 := hid ((HQ3.out.kp0 (Kp.new w3 (.cells #[.int .i64 x] 3))).app (zs := t.qu) (y := x) rfl ho hk hat); obtain ⟨A9, n9, h9, _, _⟩ := ho.is; rw [List.length_append, List.length_singleton] at h9; subst h9; have pp9 := HPC.out _ HS0.out.kp; clear ho hk hat)))
                obtain ⟨t2, ht2⟩ : ∃ t2 : RT, t2 = { t with qu := t.qu ++ [x] } := ⟨_, rfl⟩
                rw [← ht2] at HS0
                have hlen2 : t.qu.length + 1 = t2.qu.length := by rw [ht2]; simp
                rw [hlen2] at HS0 ⊢
                have HS := hid HS0.out
                have hql2 := HS.out.rr.ok.qu
                clear ht2 hlen2 HS0
                have hpo := r_pop HS.out.rr
                rw [HS.out.g] at hpo
                have HPO := hid hpo
                clear hpo
                refine HPO.out.mono ?_
                rintro e w6 ⟨rfl, C6⟩
                obtain ⟨b6, Q6⟩ := HS.out.chg C6
                have HQ6 := hid Q6
                clear C6 Q6
                by_cases hq : t2.qu = []
                · have e1 : t2.popE = 4 := by simp [RT.popE, hq]
                  have e2 : t2.popV = 0 := by simp [RT.popV, hq]
                  have HE := hid (HQ6.out.same (by simp [RT.popM, hq]))
                  rw [e1, e2]
                  have hl0 : t2.qu.length = 0 := by rw [hq]; rfl
                  rw [hl0] at HE ⊢
                  clear e1 e2 hq
                  go_wp2
                  go_roundw
                  case rel => exact ⟨i + 1, _, _, by omega, by go_num, HE.out⟩
                  case measure => simp [intOf]; omega
                · obtain ⟨y, ys, hq⟩ : ∃ y ys, t2.qu = y :: ys := by
                    rcases h : t2.qu with _ | ⟨y, ys⟩
                    · exact absurd h hq
                    · exact ⟨y, ys, rfl⟩
                  have e1 : t2.popE = 0 := by simp [RT.popE, hq]
                  have e2 : t2.popV = y := by simp [RT.popV, hq]
                  rw [e1, e2]
                  have hlp : 0 < t2.qu.length := by rw [hq]; simp
                  have hln : (((t2.qu.length : Nat) : Int) == 0) = false := beq_eq_false_iff_ne.2 (by omega)
                  have hln2 : (t2.qu.length == 0) = false := beq_eq_false_iff_ne.2 (by omega)
                  rcases HQ6.out.off with ⟨hv, h0⟩ | ⟨gq, oq, cq, cur, hv, hBq, bq, k1, k2, k3, k4⟩
                  · rw [hq] at h0; cases h0
                  · injection hv with hv1 hv2 hv3
                    have hv4 := hv3.symm
                    clear hv3
                    subst hv1
                    subst hv4
                    have cq0 := (bq.cell oq).trans (k4 0 hlp)
                    rw [show t2.qu.getD 0 0 = y by rw [hq]; rfl] at cq0
                    unfold maxLen at k2
                    have HOFF := hid (off_cut HQ6.out hBq bq k1 k2 k3 k4 hlp)
                    clear e1 e2 hq bq k4
                    by_cases hc1 : cq = 1
                    · subst hc1
                      have hl1 : t2.qu.length = 1 := by omega
                      have HF := hid (HOFF.out.1 rfl)
                      rw [hl1]
                      clear HOFF
                      go_wp2
                      go_roundw
                      case rel => exact ⟨i + 1, _, _, by omega, by go_num, HF.out⟩
                      case measure => simp [intOf]; omega
                    · have HF := hid (HOFF.out.2 hc1)
                      have hcn : ¬ (cq : Int) = 1 := by omega
                      have hq1 : (1 : Int) ≤ (t2.qu.length : Int) := by omega
                      have hqc : (t2.qu.length : Int) ≤ (cq : Int) := by omega
                      clear HOFF
                      go_wp2
                      go_roundw
                      case rel => exact ⟨i + 1, _, _, by omega, by go_num, HF.out⟩
                      case measure => simp [intOf]; omega
        · have hpi2 : ¬ (i : Int) < (np : Int) := by omega
          by_cases hx0 : x ≤ 0
          · have e1 : t.pushE x = 1 := by simp [RT.pushE, hx0]
            have HM : Hid (t.pushM x = t) := by show _ = _; simp [RT.pushM, e1]
            have dx : decide ((0 : Int) < x) = false := decide_eq_false (by omega)
            rw [e1] at hpu
            have HPU := hid hpu
            clear hpu e1
            go_wp2_with (fail)
            refine HPU.out.mono ?_
            rintro e w3 ⟨rfl, C3⟩
            obtain ⟨b3, Q3⟩ := HQ.out.chg C3
            rw [HM.out] at Q3
            have HS := hid (Q3.same rfl)
            have HZ3 := HZ0.out _ HS.out.kp
            clear C3 Q3 c0
            go_wp2
            go_roundw
            case rel => exact ⟨i + 1, _, _, by omega, by go_num, HS.out⟩
            case measure => simp [intOf]; omega
          · by_cases h64 : 64 ≤ t.qu.length
            · have e1 : t.pushE x = 6 := by simp [RT.pushE, hx0, h64]
              have HM : Hid (t.pushM x = t) := by show _ = _; simp [RT.pushM, e1]
              have dx : decide ((0 : Int) < x) = true := decide_eq_true (by omega)
              have d64 : decide (t.qu.length < 64) = false := decide_eq_false (by omega)
              have d64i : decide ((t.qu.length : Int) < 64) = false := decide_eq_false (by omega)
              rw [e1] at hpu
              have HPU := hid hpu
              clear hpu e1
              go_wp2_with (fail)
              refine HPU.out.mono ?_
              rintro e w3 ⟨rfl, C3⟩
              obtain ⟨b3, Q3⟩ := HQ.out.chg C3
              rw [HM.out] at Q3
              have HS := hid (Q3.same rfl)
              have HZ3 := HZ0.out _ HS.out.kp
              clear C3 Q3 c0
              go_wp2
              go_roundw
              case rel => exact ⟨i + 1, _, _, by omega, by go_num, HS.out⟩
              case measure => simp [intOf]; omega
            · have e1 : t.pushE x = 0 := by simp [RT.pushE, hx0, h64]
              have HM : Hid (t.pushM x = { t with qu := t.qu ++ [x] }) := by show _ = _; simp [RT.pushM, e1]
              have dx : decide ((0 : Int) < x) = true := decide_eq_true (by omega)
              have d64 : decide (t.qu.length < 64) = true := decide_eq_true (by omega)
              have d64i : decide ((t.qu.length : Int) < 64) = true := decide_eq_true (by omega)
              rw [e1] at hpu
              have HPU := hid hpu
              clear hpu e1
              go_wp2_with (fail)
              refine HPU.out.mono ?_
              rintro e w3 ⟨rfl, C3⟩
              obtain ⟨b3, Q3⟩ := HQ.out.chg C3
              rw [HM.out] at Q3
              have HQ3 := hid Q3
              have HZ3 := HZ0.out _ HQ3.out.kp
              have HZ4 := HZ0.out (w3.alloc (.cells #[.int .i64 x] 3)) (HQ3.out.kp.chain (Kp.new _ _))
              have HNB : Hid ((w3.alloc (.cells #[.int .i64 x] 3)).cell? ⟨w3.heap.size, 0, none⟩ = some (.int .i64 x)) := (Blk.new w3 3 #[.int .i64 x]).cell 0
              clear C3 Q3 c0
              go_wp2_with (first | (at_builtin; go_loud (refine wpList_append_off (B := w1.heap.size) (v := .slice A2 t.qu.length c2) (zs := t.qu) rfl (.tmp 47) (.tmp 52) rfl rfl rfl (HQ3.out.kp0 (Kp.new w3 _)).off (HQ3.out.kp0 (Kp.new w3 _)).lo (by omega) ⟨w3.heap.size, 0, none⟩ 1 x rfl HNB.out ?_; intro v9 w9 ho hk hat; have HS0 := hid ((HQ3.out.kp0 (Kp.new w3 (.cells #[.int .i64 x] 3))).app (zs := t.qu) (y := x) rfl ho hk hat); obtain ⟨A9, n9, h9, _, _⟩ := ho.is; rw [List.length_append, List.length_singleton] at h9; subst h9; clear ho hk hat)))
              go_roundw
              case rel => exact ⟨i + 1, _, _, by omega, by go_num, HS0.out⟩
              case measure => simp [intOf]; omega
      · obtain rfl : i = zs.length := by omega
        have HQ := hid Q
        have hpu := r_queue Q.rr
        rw [Q.g] at hpu
        have HPU := hid hpu
        clear Q hpu
        go_wp2_with (fail)
        refine HPU.out.mono ?_
        rintro e w5 ⟨v5, rfl, own5, bel5⟩
        have HI5 := hid (IsI.of_own own5)
        have HQ5 := hid (HQ.out.kp0 (Kp.of_below bel5))
        clear own5 bel5
        go_wp2_with (fail)
        refine (ints_same HI5.out HQ5.out.off.is).mono ?_
        rintro e w6 ⟨rfl, m6, rfl⟩
        go_wp2_with (fail)
        refine (alive_ok _).mono ?_
        rintro e w7 ⟨rfl, k7⟩
        have HK7 := hid ((HQ5.out.kp.drewN m6).chain k7)
        clear k7
        go_wp2
        go_ret
        exact ⟨rfl, HK7.out⟩
end
end Go.Proofs.Ytkepgcpogblfaaa
