/-
  The contract of package alloc's holes. Conditions: those that stand in each theorem.
-/
import Derived.Test.YtkkmlllajfafcaaPXD
import Derived.Deep.OwnRows
namespace Go.Proofs.Ytkkmlllajfafcaa
set_option linter.unusedVariables false
set_option linter.unusedSimpArgs false
open Go.RowKit Go.Deep Go.Maps

theorem holN_len (L : List Bool) (i : Nat) : (holN L i).length ≤ i := by
  induction i with
  | zero => exact Nat.le_refl _
  | succ i ih =>
    unfold holN
    split
    · omega
    · split
      · simp only [List.length_append, List.length_dropLast, List.length_cons, List.length_nil]; omega
      · simp only [List.length_append, List.length_cons, List.length_nil]; omega
theorem holN_some {L : List Bool} {i : Nat} (hi : 0 < i) (h : L.getD (i - 1) false = false) : 0 < (holN L i).length := by
  obtain ⟨j, rfl⟩ : ∃ j, i = j + 1 := ⟨i - 1, by omega⟩
  simp only [Nat.add_sub_cancel] at h
  unfold holN
  rw [if_neg (by rw [h]; decide)]
  split
  · simp
  · simp
theorem dropLast_set {α : Type} (l : List α) (x d : α) (h : 0 < l.length) : l.dropLast ++ [x] = l.set (l.length - 1) x := by
  induction l with
  | nil => cases h
  | cons a l ih =>
    rcases l with _ | ⟨b, l⟩
    · rfl
    · have := ih (by simp)
      simp only [List.dropLast_cons_cons, List.cons_append, List.length_cons, Nat.add_sub_cancel] at this ⊢
      rw [this]
      simp [List.set_cons_succ]
theorem getLastD_getD {α : Type} (l : List α) (d : α) : l.getLastD d = l.getD (l.length - 1) d := by
  induction l with
  | nil => rfl
  | cons a l ih =>
    rcases l with _ | ⟨b, l⟩
    · rfl
    · simp only [List.getLastD_cons, List.length_cons, Nat.add_sub_cancel] at ih ⊢
      rw [List.getD_cons_succ]
      simpa using ih
theorem holN_bd (L : List Bool) (i : Nat) : ∀ g ∈ holN L i, g.1 + g.2 ≤ i ∧ 1 ≤ g.2 := by
  induction i with
  | zero => intro g hg; cases hg
  | succ i ih =>
    intro g hg
    unfold holN at hg
    split at hg
    · have := ih g hg; omega
    · split at hg
      · rename_i h1 h2
        have hpos := holN_some h2.1 h2.2
        rcases List.mem_append.1 hg with h3 | h3
        · have := ih g (List.dropLast_subset _ h3); omega
        · simp only [List.mem_singleton] at h3
          have hm : (holN L i).getLastD (0, 0) ∈ holN L i := by
            rw [getLastD_getD, List.getD_eq_getElem?_getD, List.getElem?_eq_getElem (by omega)]
            exact List.getElem_mem _
          have := ih _ hm
          rw [h3]; simp only; omega
      · rcases List.mem_append.1 hg with h3 | h3
        · have := ih g h3; omega
        · simp only [List.mem_singleton] at h3
          rw [h3]; simp only; omega
theorem rcells_get1 {rs : List (Nat × Nat)} {sp : List Value} {q : Nat} (hq : q < rs.length) : (rcells rs ++ sp).toArray[q * 2 + 1]? = some (.int .i64 ((rs.getD q (0, 0)).2 : Int)) := by
  induction rs generalizing q with
  | nil => cases hq
  | cons r rs ih =>
    rcases q with _ | q
    · rfl
    · have := ih (q := q) (by simpa using hq)
      simp only [List.getElem?_toArray] at this ⊢
      have e : ∀ (l : List (Nat × Nat)) (a : Nat × Nat), rcells (a :: l) = .int .i64 (a.1 : Int) :: .int .i64 (a.2 : Int) :: rcells l := fun _ _ => rfl
      rw [e, show (q + 1) * 2 + 1 = q * 2 + 1 + 1 + 1 by omega]
      simp only [List.cons_append, List.getElem?_cons_succ, List.getD_cons_succ]
      rw [this]
/-- A slice of bools. -/
def BoolsAt (w : World) (v : Value) (L : List Bool) : Prop := ∃ A cap, v = .slice A L.length cap ∧ ∀ i, i < L.length → ∃ g, A = some ⟨g, 0, none⟩ ∧ w.cell? ⟨g, i, none⟩ = some (.bool (L.getD i false))
theorem BoolsAt.kp0 {w W : World} {v : Value} {L : List Bool} (h : BoolsAt w v L) (k : Kp [] w W) : BoolsAt W v L := by
  obtain ⟨A, cap, rfl, hA⟩ := h
  exact ⟨A, cap, rfl, fun i hi => by obtain ⟨g, h1, h2⟩ := hA i hi; exact ⟨g, h1, cell_kp k h2⟩⟩
theorem rcells_set1 {rs : List (Nat × Nat)} {sp : List Value} {q : Nat} (y : Nat) (hq : q < rs.length) :
    ((rcells rs ++ sp).toArray.setIfInBounds (q * 2 + 1) (.int .i64 (y : Int))) = (rcells (rs.set q ((rs.getD q (0, 0)).1, y)) ++ sp).toArray := by
  rw [List.setIfInBounds_toArray]
  congr 1
  induction rs generalizing q with
  | nil => cases hq
  | cons r rs ih =>
    rcases q with _ | q
    · rfl
    · have := ih (q := q) (by simpa using hq)
      have e : ∀ (l : List (Nat × Nat)) (a : Nat × Nat), rcells (a :: l) = .int .i64 (a.1 : Int) :: .int .i64 (a.2 : Int) :: rcells l := fun _ _ => rfl
      rw [e, List.set_cons_succ, e, show (q + 1) * 2 + 1 = q * 2 + 1 + 1 + 1 by omega]
      simp only [List.cons_append, List.set_cons_succ, List.getD_cons_succ]
      rw [this]
theorem own_formR {w : World} {B : Nat} {v : Value} {rs : List (Nat × Nat)} (h : w.ownsRow B 129 2 v rs.length (rcells rs)) (hn : 0 < rs.length) :
    ∃ g c sp, v = .slice (some ⟨g, 0, none⟩) rs.length c ∧ B ≤ g ∧ Blk w g 129 (rcells rs ++ sp).toArray ∧ rs.length ≤ c ∧ c ≤ maxLen ∧ (rcells rs ++ sp).length = c * 2 := by
  obtain ⟨hl, h2 | ⟨g, cap, cur, hv, hg, hb, hnc, hcm, hsz, htk⟩⟩ := h
  · omega
  · refine ⟨g, cap, cur.toList.drop (rs.length * 2), hv, hg, ?_, hnc, hcm, ?_⟩
    · rw [← htk, List.take_append_drop]
      exact hb
    · rw [← htk, List.take_append_drop]
      simpa using hsz
theorem own_ofR {w : World} {B g c : Nat} {sp : List Value} {rs : List (Nat × Nat)} (hg : B ≤ g) (hb : Blk w g 129 (rcells rs ++ sp).toArray) (h1 : rs.length ≤ c) (h2 : c ≤ maxLen) (h3 : (rcells rs ++ sp).length = c * 2) :
    w.ownsRow B 129 2 (.slice (some ⟨g, 0, none⟩) rs.length c) rs.length (rcells rs) := by
  refine ⟨by rw [rcells_length], .inr ⟨g, c, (rcells rs ++ sp).toArray, rfl, hg, hb, h1, h2, by simpa using h3, ?_⟩⟩
  rw [List.toList_toArray, List.take_left' (rcells_length rs)]
section
variable {w W V : World} {b : HB} {m : HM} {q : Nat}
set_option maxRecDepth 100000 in
set_option maxHeartbeats 1000000 in
theorem a_holes {v : Value} {L : List Bool} (hL : BoolsAt w v L) (hl : L.length ≤ 100) :
    Calls Try.prog 111 #[v] w (Grows w.heap.size w (holL L)) := by
  obtain ⟨i0, hi0, hz0, hz1, hz2⟩ := info_parts infoRun
  have hL0 := hL
  obtain ⟨A, cap, rfl, _⟩ := hL
  have HL := hid hL0
  clear hL0
  go_enter Try.func111, Try.ntmps111
  go_wp2
  go_loopw [3, 8] (fun r c wr => ∃ j : Nat, j ≤ L.length ∧ c = .int .i64 (j : Int) ∧ wr.ownsRow w.heap.size 129 2 r (holN L j).length (rcells (holN L j)) ∧ Below w.heap.size w wr) (fun _ c _ => L.length - (intOf c).toNat)
  case atStart => exact ⟨0, by omega, rfl, ⟨rfl, .inl ⟨rfl, rfl⟩⟩, Below.refl _ _⟩
  case round =>
    obtain ⟨j, hj, rfl, own, bel⟩ := hrel
    have HO := hid own
    have HBE := hid bel
    have HB2 := HL.out.kp0 (Kp.of_below bel)
    have hle := holN_len L j
    clear own bel
    by_cases hlt : j < L.length
    · obtain ⟨A', cap', e1, hA⟩ := HB2
      injection e1 with e1 e2 e3
      subst e1
      obtain ⟨g, rfl, hc⟩ := hA j hlt
      rcases ht : L.getD j false
      · by_cases hp : 0 < j ∧ L.getD (j - 1) false = false
        · have hstep : holN L (j + 1) = (holN L j).set ((holN L j).length - 1) (((holN L j).getD ((holN L j).length - 1) (0, 0)).1, ((holN L j).getD ((holN L j).length - 1) (0, 0)).2 + 1) := by
            conv => lhs; unfold holN
            rw [if_neg (by rw [ht]; decide), if_pos hp, dropLast_set _ _ (0, 0) (holN_some hp.1 hp.2), getLastD_getD]
          have hpos := holN_some hp.1 hp.2
          obtain ⟨gr, cr, sp, hv, hgr, hbr, hc1, hc2, hc3⟩ := own_formR HO.out hpos
          have hbel := HBE.out
          subst hv
          clear HO HBE
          obtain ⟨jm, hjm⟩ : ∃ jm, j = jm + 1 := ⟨j - 1, by omega⟩
          have htm : L.getD jm false = false := by rw [show jm = j - 1 by omega]; exact hp.2
          obtain ⟨g', e4, hcm⟩ := hA jm (by omega)
          injection e4 with e4
          injection e4 with e4
          subst e4
          rw [htm] at hcm
          rw [ht] at hc
          have hsub : (j : Int) - 1 = (jm : Int) := by omega
          have hdi : decide ((0 : Int) < (j : Int)) = true := decide_eq_true (by omega)
          have hdn : decide (0 < j) = true := decide_eq_true (by omega)
          have hjl : jm < L.length := by omega
          have HST := hid hstep
          have HJM := hid hjm
          generalize hrs : holN L j = rs at hle hpos hbr hc1 hc3 HST ⊢
          obtain ⟨p, hpl⟩ : ∃ p, rs.length = p + 1 := ⟨rs.length - 1, by omega⟩
          rw [hpl, Nat.add_sub_cancel] at HST
          have hpp : p < rs.length := by omega
          have hcell : wr.cell? ⟨gr, p * 2 + 1, none⟩ = some (.int .i64 ((rs.getD p (0, 0)).2 : Int)) := by
            rw [hbr.cell]
            exact rcells_get1 hpp
          have hfz := hbr.frozen (p * 2 + 1)
          obtain ⟨z, hz⟩ : ∃ z, (rs.getD p (0, 0)).2 = z := ⟨_, rfl⟩
          rw [hz] at hcell
          have HZ := hid hz
          have HBR := hid hbr
          have HPL := hid hpl
          have HRS := hid hrs
          have hzb : z ≤ 100000 := by
            have hm : rs.getD p (0, 0) ∈ holN L j := by
              rw [hrs, List.getD_eq_getElem?_getD, List.getElem?_eq_getElem hpp]
              exact List.getElem_mem _
            have := holN_bd L j _ hm
            omega
          have hp100 : p ≤ 100 := by omega
          have hps : ((p + 1 : Nat) : Int) - 1 = (p : Int) := by omega
          have HCC : Hid (rs.length ≤ cr ∧ cr ≤ maxLen ∧ (rcells rs ++ sp).length = cr * 2 ∧ w.heap.size ≤ gr ∧ Below w.heap.size w wr) := ⟨hc1, hc2, hc3, hgr, hbel⟩
          unfold maxLen at hc2
          rw [hpl] at hc1 ⊢
          clear hA e2 e3 ht htm hstep hp hjm hrs hbr hpl hz hpos hc3 hgr hbel hpp hle
          go_wp2
          go_roundw
          case rel =>
            obtain ⟨u1, u2, u3, u4, u5⟩ := HCC.out
            have hb2 := HBR.out.set_ (p * 2 + 1) (.int .i64 ((z : Int) + 1))
            have hz1 : (.int .i64 ((z : Int) + 1) : Value) = .int .i64 ((z + 1 : Nat) : Int) := rfl
            rw [hz1, rcells_set1 (z + 1) (by have := HPL.out; omega)] at hb2
            have HS9 := HST.out
            rw [HZ.out] at HS9
            have hlen : (holN L (j + 1)).length = p + 1 := by rw [HS9, List.length_set]; exact HPL.out
            have hown := own_ofR (w := wr.setCell ⟨gr, p * 2 + 1, none⟩ (.int .i64 ((z + 1 : Nat) : Int))) (rs := holN L (j + 1)) (sp := sp) (B := w.heap.size) (c := cr) u4 (by rw [HS9]; exact hb2) (by rw [hlen, ← HPL.out]; exact u1) u2 (by rw [HS9]; simpa [rcells_length] using u3)
            rw [hlen] at hown
            refine ⟨j + 1, by omega, by go_num, ?_, u5.trans ((Kp.cell wr ⟨gr, p * 2 + 1, none⟩ _).below u5.size (by simp; omega))⟩
            rw [hlen]
            exact hown
          case measure => simp [intOf]; omega
        · have hstep : holN L (j + 1) = holN L j ++ [(j, 1)] := by
            conv => lhs; unfold holN
            rw [if_neg (by rw [ht]; decide), if_neg hp]
          have HST := hid hstep
          rw [ht] at hc
          by_cases hj0 : j = 0
          · have hdi : decide ((0 : Int) < (j : Int)) = false := decide_eq_false (by omega)
            have hdn : decide (0 < j) = false := decide_eq_false (by omega)
            have HJ0 := hid hj0
            clear hA e2 e3 ht hstep hp hj0
            have own1 := HO.out
            have HNEW := hid (run_news wr (j : Int) 1 0)
            have NONE := run_news_one (j : Int) 1
            have HSZ := hid HBE.out.size
            go_wp2_with (at_builtin; refine wpList_append_own _ rfl (.tmp 13) (.tmp 16) 126 rfl w.heap.size 129 i0 (.agg #[.int .i64 0, .int .i64 0]) 2 16 Try.underlying126 hi0 hz0 hz1 hz2 rfl (by decide) _ _ _ rfl (HO.out.alloc _) ⟨wr.heap.size, 0, none⟩ 1 1 [.int .i64 (j : Int), .int .i64 1] rfl rfl HNEW.out NONE (by unfold maxLen; omega) (by omega) (by have := HSZ.out; simp; omega) ?_; intro v' w1 hown' hgr _; have HO1 := hid hown'; have HG1 := hid hgr; clear hown' hgr)
            go_roundw
            case rel =>
              obtain ⟨v2, e2, o2, b2⟩ := grows_end (n := 0) (i := j) (z := 1) HSZ.out rfl HO.out HO1.out HG1.out
              cases e2
              exact ⟨j + 1, by omega, by go_num, by rw [HST.out]; exact o2, HBE.out.trans b2⟩
            case measure => simp [intOf]; omega
          · obtain ⟨jm, hjm⟩ : ∃ jm, j = jm + 1 := ⟨j - 1, by omega⟩
            have htm : L.getD jm false = true := by
              rcases h : L.getD jm false
              · exact absurd ⟨by omega, by rw [show j - 1 = jm by omega]; exact h⟩ hp
              · rfl
            obtain ⟨g', e4, hcm⟩ := hA jm (by omega)
            injection e4 with e4
            injection e4 with e4
            subst e4
            rw [htm] at hcm
            have hsub : (j : Int) - 1 = (jm : Int) := by omega
            have hdi : decide ((0 : Int) < (j : Int)) = true := decide_eq_true (by omega)
            have hdn : decide (0 < j) = true := decide_eq_true (by omega)
            have hjl : jm < L.length := by omega
            have HJM := hid hjm
            clear hA e2 e3 ht htm hstep hp hj0 hjm
            have own1 := HO.out
            have HNEW := hid (run_news wr (j : Int) 1 0)
            have NONE := run_news_one (j : Int) 1
            have HSZ := hid HBE.out.size
            go_wp2_with (at_builtin; refine wpList_append_own _ rfl (.tmp 13) (.tmp 16) 126 rfl w.heap.size 129 i0 (.agg #[.int .i64 0, .int .i64 0]) 2 16 Try.underlying126 hi0 hz0 hz1 hz2 rfl (by decide) _ _ _ rfl (HO.out.alloc _) ⟨wr.heap.size, 0, none⟩ 1 1 [.int .i64 (j : Int), .int .i64 1] rfl rfl HNEW.out NONE (by unfold maxLen; omega) (by omega) (by have := HSZ.out; simp; omega) ?_; intro v' w1 hown' hgr _; have HO1 := hid hown'; have HG1 := hid hgr; clear hown' hgr)
            go_roundw
            case rel =>
              obtain ⟨v2, e2, o2, b2⟩ := grows_end (n := 0) (i := j) (z := 1) HSZ.out rfl HO.out HO1.out HG1.out
              cases e2
              exact ⟨j + 1, by omega, by go_num, by rw [HST.out]; exact o2, HBE.out.trans b2⟩
            case measure => simp [intOf]; omega
      · have hstep : holN L (j + 1) = holN L j := by
          conv => lhs; unfold holN
          rw [if_pos ht]
        have HST := hid hstep
        rw [ht] at hc
        clear hA e2 e3 ht hstep
        go_wp2
        go_roundw
        case rel => exact ⟨j + 1, by omega, by go_num, by rw [HST.out]; exact HO.out, HBE.out⟩
        case measure => simp [intOf]; omega
    · obtain rfl : j = L.length := by omega
      clear HB2
      go_wp2
      go_ret
      exact ⟨_, rfl, HO.out, HBE.out⟩
end
end Go.Proofs.Ytkkmlllajfafcaa
/-
  The contract of package alloc's holeFrom. Conditions: those that stand in each theorem.
-/
namespace Go.Proofs.Ytkkmlllajfafcaa
set_option linter.unusedVariables false
set_option linter.unusedSimpArgs false
open Go.RowKit Go.Deep Go.Maps Go.Shelf
attribute [local go_sem] Oper.semAt_some

theorem holsL_pre (m : HM) (s : Nat) {pre : List Nat} {k : Nat} (h : pre ++ [k] <+: blkS m s m.bl.length) (i : Nat) : pre.flatMap (holsAt m) ++ (holsAt m k).take i <+: holsL m s m.bl.length := by
  obtain ⟨t, ht⟩ := h
  unfold holsL
  rw [← ht, List.flatMap_append, List.flatMap_append]
  simp only [List.flatMap_cons, List.flatMap_nil, List.append_nil]
  rw [List.append_assoc]
  refine (List.prefix_append_right_inj _).2 ?_
  exact (List.take_prefix _ _).trans (List.prefix_append _ _)
theorem holeA_at {m : HM} {s f : Nat} {pre : List (Nat × Nat)} {a : Nat × Nat} (h : pre ++ [a] <+: holsL m s m.bl.length) (hno : ∀ x ∈ pre, x.1 < f) (ha : f ≤ a.1) : m.holeA s f = a := by
  obtain ⟨t, ht⟩ := h
  unfold HM.holeA
  rw [← ht, List.append_assoc, List.find?_append, List.find?_eq_none.2 (fun x hx => by have := hno x hx; simp; omega)]
  simp [ha]
theorem holeA_no {m : HM} {s f : Nat} (hno : ∀ x ∈ holsL m s m.bl.length, x.1 < f) : m.holeA s f = m.freeA := by
  unfold HM.holeA
  rw [List.find?_eq_none.2 (fun x hx => by have := hno x hx; simp; omega)]
theorem lnL_length (m : HM) (k : Nat) : (m.lnL k).length = 8 := lnN_length _ _ _
theorem boolsAt_of {w : World} {g : Nat} {L : List Bool} {n : Nat} (hb : Blk w g 4 (lcells L).toArray) (hn : L.length = n) : BoolsAt w (.slice (some ⟨g, 0, none⟩) n n) L := by
  subst hn
  exact ⟨_, _, rfl, fun i hi => ⟨g, rfl, by rw [hb.cell]; exact lcells_get hi⟩⟩
section
variable {w W V : World} {b : HB} {m : HM} {q : Nat}
set_option maxRecDepth 100000 in
set_option maxHeartbeats 4000000 in
theorem a_holeFrom (h : SH w b q m) (s f : Nat) (hf : f ≤ 10000) :
    Calls Try.prog 110 #[.agg #[.pointer (some ⟨b.g, 0, none⟩), .int .i64 (s : Int)], .int .i64 (f : Int)] w fun e w' => e = .returned (.agg #[.int .i64 ((m.holeA s f).1 : Int), .int .i64 ((m.holeA s f).2 : Int)]) ∧ Kp [] w w' := by
  have HINV := hid h.inv
  have HLT := hid h.lt
  have HSH := hid h
  obtain ⟨ha, hha⟩ : ∃ x, m.holeA s f = x := ⟨_, rfl⟩
  rw [hha]
  have HHA := hid hha
  clear h hha
  refine (callsIn_wide (n := 3)).1 ?_
  refine callsIn_of_wp_marks Try.func110 rfl trivial ?_ rfl
  simp only [Try.ntmps110, List.size_toArray, List.length_cons, List.length_nil, Nat.reduceAdd, Nat.reduceSub, Array.replicate_succ, Array.replicate_zero, List.push_toArray, List.append_toArray, List.nil_append, List.cons_append]
  gi_wp2
  obtain ⟨w0, hw0⟩ : ∃ w0, w0 = (((w.alloc (.cells #[.pointer (some ⟨b.g, 0, none⟩), .int .i64 (s : Int)] 27)).alloc (.cells #[.int .i64 (f : Int)] 3)).alloc (.cells #[.int .i64 0, .int .i64 0] 29)) := ⟨_, rfl⟩
  have hsz : w0.heap.size = w.heap.size + 3 := by rw [hw0]; simp
  have K0 : Kp [] w w0 := by rw [hw0]; exact ((Kp.new _ _).chain (Kp.new _ _)).chain (Kp.new _ _)
  have hbl : ∀ x ∈ b.all, x < w.heap.size + 3 := fun x hx => by have := HLT.out x hx; omega
  have B2 : Blk w0 w.heap.size 27 #[.pointer (some ⟨b.g, 0, none⟩), .int .i64 (s : Int)] := by
    rw [hw0]
    have := ((Blk.new w 27 #[.pointer (some ⟨b.g, 0, none⟩), .int .i64 (s : Int)]).kp (Kp.new _ (.cells #[.int .i64 (f : Int)] 3)) (by simp)).kp (Kp.new _ (.cells #[.int .i64 0, .int .i64 0] 29)) (by simp)
    simpa using this
  have B3 : Blk w0 (w.heap.size + 1) 3 #[.int .i64 (f : Int)] := by
    rw [hw0]
    have := (Blk.new (w.alloc (.cells #[.pointer (some ⟨b.g, 0, none⟩), .int .i64 (s : Int)] 27)) 3 #[.int .i64 (f : Int)]).kp (Kp.new _ (.cells #[.int .i64 0, .int .i64 0] 29)) (by simp)
    simpa using this
  have B4 : Blk w0 (w.heap.size + 1 + 1) 29 #[.int .i64 0, .int .i64 0] := by
    rw [hw0]
    have := Blk.new ((w.alloc (.cells #[.pointer (some ⟨b.g, 0, none⟩), .int .i64 (s : Int)] 27)).alloc (.cells #[.int .i64 (f : Int)] 3)) 29 #[.int .i64 0, .int .i64 0]
    simpa using this
  rw [← hw0]
  obtain ⟨R, hR⟩ : ∃ R : List Nat → World → Prop, R = fun pre W => SH W b q m ∧ (Blk W w.heap.size 27 #[.pointer (some ⟨b.g, 0, none⟩), .int .i64 (s : Int)] ∧ (Blk W (w.heap.size + 1) 3 #[.int .i64 (f : Int)] ∧ (Blk W (w.heap.size + 1 + 1) 29 #[.int .i64 0, .int .i64 0] ∧ (∀ a ∈ pre.flatMap (holsAt m), a.1 < f)))) := ⟨_, rfl⟩
  have HRD := hid hR
  have hLR : ∀ pre, Low (w.heap.size + 3) (R pre) := fun pre => by rw [hR]; exact (Low.sh hbl _ _).and ((Low.blk (by omega) _ _).and ((Low.blk (by omega) _ _).and ((Low.blk (by omega) _ _).and (Low.pure _ _))))
  have hLX : Low (w.heap.size + 3) (fun W => Blk W (w.heap.size + 1 + 1) 29 #[.int .i64 (ha.1 : Int), .int .i64 (ha.2 : Int)]) := Low.blk (by omega) _ _
  have hR0 : R [] w0 := by rw [hR]; exact ⟨HSH.out.k0 K0, B2, B3, B4, by simp⟩
  have HLR := hid hLR
  have HLX := hid hLX
  have HR0 := hid hR0
  have HK0 := hid K0
  have HSZ := hid hsz
  have HW5 : Hid (w.heap.size ≤ w.heap.size + 3) := by show _ ≤ _; omega
  clear hw0 hsz K0 hbl B2 B3 B4 hR hLR hLX hR0
  refine range_yields rfl (by omega) (gf := 91) (cv := #[.agg #[.pointer (some ⟨b.g, 0, none⟩), .int .i64 (s : Int)]]) (lb := #[]) rfl trivial (enters_of Try.func91 (by kernel_rfl) rfl)
    (blocks_yields s) (fun _ => rfl)
    (fun pre S W => OL w (w.heap.size + 3) (R pre) S W)
    (fun c pre S W => c = .ret ∧ OL w (w.heap.size + 3) (fun W => Blk W (w.heap.size + 1 + 1) 29 #[.int .i64 (ha.1 : Int), .int .i64 (ha.2 : Int)]) S W)
    (fun pre S W h => by have := h.r; rw [HRD.out] at this; exact this.1)
    (fun pre S W W' h K => h.bears (HLR.out _) HW5.out K)
    (fun c pre S W W' h K => ⟨h.1, h.2.bears HLX.out HW5.out K⟩)
    (fun pre S W o o' h _ _ => h.put (HLR.out _) HW5.out _ (by rw [HSZ.out]; omega) _)
    (fun c pre S W o o' h _ _ => ⟨h.1, h.2.put HLX.out HW5.out _ (by rw [HSZ.out]; omega) _⟩)
    (fun o o' _ _ => OL.start (HLR.out _) HSZ.out HR0.out HK0.out o o')
    (fun x a' W => a' = { tmps := #[.agg #[.pointer (some ⟨b.g, 0, none⟩), .int .i64 (s : Int)], .int .i64 (f : Int), .pointer (some ⟨w.heap.size, 0, none⟩), .pointer (some ⟨w.heap.size + 1, 0, none⟩), .pointer (some ⟨w.heap.size + 1 + 1, 0, none⟩), .int .i64 (x : Int), undef, undef, undef, .agg #[.pointer (some ⟨b.g, 0, none⟩), .int .i64 (s : Int)], .func (.func 91) #[.agg #[.pointer (some ⟨b.g, 0, none⟩), .int .i64 (s : Int)]] #[], .int .i64 (x : Int), undef, undef, undef, undef, undef, undef, undef, undef, undef, undef, undef, undef, undef, undef, undef, undef, undef, undef, undef, undef, undef, undef, undef, undef, undef, undef, undef, undef, undef], defers := [] })
    (fun x a' W o o' h ho hc => h) ?assign ?body ?done ?stop
  case assign =>
    intro l' pre x S W K hI hK
    have HK := hid hK
    have HI := hid hI
    clear hK hI
    gi_wp2
    exact HK.out _ _ (KpS.refl _ _) (KpS.refl _ _) HI.out rfl
  case body =>
    rintro l' pre k S a' W hI rfl hpre
    have hk : ownS m s k = true := (mem_blkS.1 (hpre.subset (by simp) : k ∈ blkS m s m.bl.length)).2
    have hkl := ownS_lt hk
    have hk64 : k < 64 := by have := HINV.out.len64; omega
    have hst : m.st k = 1 := (of_decide_eq_true hk).1
    have hrr := hI.r
    rw [HRD.out] at hrr
    obtain ⟨hsh, b2, b3, b4, hno⟩ := hrr
    have c0 := b2.cell 0
    have HI := hid hI
    have HNO := hid hno
    have HPRE := hid (holsL_pre m s hpre)
    have HB3 := hid b3
    have HB4 := hid b4
    have HLN := hid (h_lines hsh k hkl hst)
    have HMAP : Hid (∀ j, j < (holL (m.lnL k)).length → (holsAt m k).take (j + 1) = (holsAt m k).take j ++ [holeOf k ((holL (m.lnL k)).getD j (0, 0))]) := fun j hj => by
      show ((holL (m.lnL k)).map (holeOf k)).take (j + 1) = ((holL (m.lnL k)).map (holeOf k)).take j ++ _
      rw [List.take_succ_eq_append_getElem (by simpa using hj), List.getElem_map, List.getD_eq_getElem?_getD, List.getElem?_eq_getElem hj]
      rfl
    have HLEN : Hid ((holsAt m k).take (holL (m.lnL k)).length = holsAt m k) := by
      show _ = _
      rw [List.take_of_length_le]; unfold holsAt; simp
    have HBD : Hid (∀ j, j < (holL (m.lnL k)).length → ((holL (m.lnL k)).getD j (0, 0)).1 + ((holL (m.lnL k)).getD j (0, 0)).2 ≤ 8) := fun j hj => by
      have := holN_bd (m.lnL k) (m.lnL k).length ((holL (m.lnL k)).getD j (0, 0)) (by rw [List.getD_eq_getElem?_getD, List.getElem?_eq_getElem hj]; exact List.getElem_mem _)
      rw [lnL_length] at this
      exact this.1
    have hhl : (holL (m.lnL k)).length ≤ 8 := by have := holN_len (m.lnL k) (m.lnL k).length; rw [lnL_length] at this; unfold holL; rw [lnL_length]; exact this
    clear hI hno hpre b2 b3 b4 hk hst hkl hsh
    gi_wp2
    refine ⟨trivial, ?_⟩
    refine ((callsIn_wide.2 HLN.out).inRound l').mono ?_
    rintro e w5 ⟨gl, rfl, hbl, hgl, K5⟩
    have HBO := hid (boolsAt_of hbl (lnL_length m k))
    have HK5 := hid K5
    clear hbl hgl K5 c0 HLN
    gi_wp2
    refine ⟨trivial, ?_⟩
    refine ((callsIn_wide.2 (a_holes HBO.out (by rw [lnL_length]; omega))).inRound l').mono ?_
    rintro e w6 ⟨v, rfl, own, bel⟩
    have HK6 := hid (HK5.out.chain (Kp.of_below bel))
    have HRU := hid (RunsAt.of_own own)
    obtain ⟨A, cap, rfl, _⟩ := HRU.out
    generalize hgs : holL (m.lnL k) = gs at hhl HMAP HLEN HBD HRU ⊢
    clear own bel hgs HBO HK5
    gi_wp2
    gi_loopw [18] (fun c wr => ∃ j : Nat, j ≤ gs.length ∧ c = .int .i64 (j : Int) ∧ (∀ a ∈ pre.flatMap (holsAt m) ++ (holsAt m k).take j, a.1 < f) ∧ Kp [] w6 wr) (fun c _ => gs.length - (intOf c).toNat)
    case atStart => exact ⟨0, by omega, rfl, by simpa using HNO.out, Kp.refl _ _⟩
    case round =>
      obtain ⟨j, hj, rfl, hnj, hK6⟩ := hrel
      have HNJ := hid hnj
      have HR9 := runsK HRU.out hK6
      have H6 := hid hK6
      have hK := HK6.out.chain hK6
      have HK := hid hK
      clear hK6
      by_cases hlt : j < gs.length
      · obtain ⟨A', cap', e1, hA⟩ := HR9
        injection e1 with e1 e2 e3
        subst e1
        obtain ⟨g, rfl, g1, g2⟩ := hA j hlt
        have hbd := HBD.out j hlt
        have hmap := HMAP.out j hlt
        obtain ⟨x, y, hxy⟩ : ∃ x y, gs.getD j (0, 0) = (x, y) := ⟨_, _, rfl⟩
        rw [hxy] at g1 g2 hbd hmap
        simp only at g1 g2 hbd
        have hx8 : x ≤ 8 := by omega
        have hy8 : y ≤ 8 := by omega
        have KA := Kp.new wr (.cells #[.int .i64 (x : Int), .int .i64 (y : Int)] 129)
        have HKA := hid (hK.chain KA)
        have HKB := hid (H6.out.chain KA)
        have BX := Blk.new wr 129 #[.int .i64 (x : Int), .int .i64 (y : Int)]
        have x0 := BX.cell 0
        have x1 := BX.cell 1
        have d0 := (HB3.out.kp HKA.out (by simp)).cell 0
        have B4' := HB4.out.kp HKA.out (by simp)
        have e0 := B4'.cell 0
        have e1 := B4'.cell 1
        have f0 := B4'.frozen 0
        have f1 := B4'.frozen 1
        have HB4' := hid B4'
        have HMP := hid hmap
        clear hA e2 e3 hnj hK hbd hxy KA BX B4' hmap
        by_cases hge : f ≤ k * 64 + x * 8
        · have t : decide ((f : Int) ≤ (k : Int) * 64 + (x : Int) * 8) = true := decide_eq_true (by omega)
          have HGE := hid hge
          clear hge
          gi_wp2
          have hpp := HPRE.out (j + 1)
          rw [HMP.out, ← List.append_assoc] at hpp
          have hhh := holeA_at hpp HNJ.out (by unfold holeOf; exact HGE.out)
          rw [HHA.out] at hhh
          have b9 := (HB4'.out.set_ 0 (.int .i64 ((k : Int) * 64 + (x : Int) * 8))).set_ 1 (.int .i64 ((k : Int) * 64 + (x : Int) * 8 + (y : Int) * 8))
          have k1 := Kp.cell (wr.alloc (.cells #[.int .i64 (x : Int), .int .i64 (y : Int)] 129)) ⟨w.heap.size + 1 + 1, 0, none⟩ (.int .i64 ((k : Int) * 64 + (x : Int) * 8))
          have k2 := Kp.cell ((wr.alloc (.cells #[.int .i64 (x : Int), .int .i64 (y : Int)] 129)).setCell ⟨w.heap.size + 1 + 1, 0, none⟩ (.int .i64 ((k : Int) * 64 + (x : Int) * 8))) ⟨w.heap.size + 1 + 1, 1, none⟩ (.int .i64 ((k : Int) * 64 + (x : Int) * 8 + (y : Int) * 8))
          have KC : Kp [w.heap.size + 1 + 1] W _ := (HKA.out.chain0 k1).trans k2 (fun z hz => .inl (by rcases List.mem_singleton.1 hz with rfl; simp)) (fun z hz => .inl (by rcases List.mem_singleton.1 hz with rfl; simp))
          have hks := HI.out.kps KC (by simp)
          refine ⟨by rw [HSZ.out]; exact hks.1, hks.2, rfl, HI.out.to KC (by simp; omega) ?_⟩
          have q1 : (ha.1 : Int) = (k : Int) * 64 + (x : Int) * 8 := by rw [hhh]; unfold holeOf; simp only; omega
          have q2 : (ha.2 : Int) = (k : Int) * 64 + (x : Int) * 8 + (y : Int) * 8 := by rw [hhh]; unfold holeOf; simp only; omega
          rw [q1, q2]
          exact b9
        · have t : decide ((f : Int) ≤ (k : Int) * 64 + (x : Int) * 8) = false := decide_eq_false (by omega)
          have HGE := hid hge
          clear hge
          gi_wp2
          go_roundw
          case rel =>
            refine ⟨j + 1, by omega, by go_num, ?_, HKB.out⟩
            rw [HMP.out, ← List.append_assoc]
            intro a ha2
            rcases List.mem_append.1 ha2 with h1 | h1
            · exact HNJ.out a h1
            · simp only [List.mem_singleton] at h1
              rw [h1]
              have := HGE.out
              unfold holeOf
              simp only
              omega
          case measure => simp [intOf]; omega
      · obtain ⟨j9, rfl⟩ : ∃ x, x = j := ⟨_, rfl⟩
        have hje : j9 = gs.length := by omega
        subst hje
        clear hnj hK HR9
        gi_wp2
        have hks := HI.out.kps HK.out (by simp)
        refine ⟨by rw [HSZ.out]; exact hks.1, hks.2, HI.out.to (R' := R (pre ++ [k])) HK.out (by simp) ?_⟩
        have hr := HI.out.step (HLR.out _) HK.out |>.r
        rw [HRD.out] at hr ⊢
        refine ⟨hr.1, hr.2.1, hr.2.2.1, hr.2.2.2.1, ?_⟩
        have hq := HNJ.out
        rw [HLEN.out] at hq
        rw [List.flatMap_append]
        simpa using hq
  case done =>
    rintro D S W rfl hI hDK
    have hrr := hI.r
    rw [HRD.out] at hrr
    obtain ⟨hsh, b2, b3, b4, hno⟩ := hrr
    have HI := hid hI
    have c0 := b2.cell 0
    have c1 := b2.cell 1
    have HB4 := hid b4
    have HFB := hid (a_freeBlock hsh s)
    have HAF : Hid (ha = m.freeA) := by show _ = _; rw [← HHA.out]; exact holeA_no hno
    clear hI hno b2 b3 b4 hsh
    gi_wp2
    refine ⟨trivial, ?_⟩
    refine (callsIn_wide.2 HFB.out).mono ?_
    rintro e w5 ⟨rfl, K5⟩
    rw [← HAF.out]
    have B4 := HB4.out.kp K5 (by simp)
    have e0 := B4.cell 0
    have e1 := B4.cell 1
    have f0 := B4.frozen 0
    have f1 := B4.frozen 1
    have HB5 := hid B4
    have HK5 := hid K5
    have hD5 := (K5.block _ (Array.getElem?_eq_some_iff.1 hDK).1 (by simp)).trans hDK
    clear K5 B4
    gi_wp2
    have b9 := (HB5.out.set_ 0 (.int .i64 (ha.1 : Int))).set_ 1 (.int .i64 (ha.2 : Int))
    have k1 := Kp.cell w5 ⟨w.heap.size + 1 + 1, 0, none⟩ (.int .i64 (ha.1 : Int))
    have k2 := Kp.cell (w5.setCell ⟨w.heap.size + 1 + 1, 0, none⟩ (.int .i64 (ha.1 : Int))) ⟨w.heap.size + 1 + 1, 1, none⟩ (.int .i64 (ha.2 : Int))
    have KC : Kp [w.heap.size + 1 + 1] w5 _ := k1.trans k2 (fun z hz => .inl (by rcases List.mem_singleton.1 hz with rfl; simp)) (fun z hz => .inl (by rcases List.mem_singleton.1 hz with rfl; simp))
    have K7 : Kp [] w _ := (HI.out.kp.chain HK5.out).trans KC (U := []) (by simp) (fun z hz => .inr (by simp at hz; omega))
    have hD9 := (KC.block w0.heap.size (Array.getElem?_eq_some_iff.1 hD5).1 (by have := HSZ.out; simp; omega)).trans hD5
    generalize ((w5.setCell ⟨w.heap.size + 1 + 1, 0, none⟩ (.int .i64 (ha.1 : Int))).setCell ⟨w.heap.size + 1 + 1, 1, none⟩ (.int .i64 (ha.2 : Int))) = w7 at b9 K7 hD9 ⊢
    refine ⟨by simp, .inl ⟨_, _, rfl, run_takeDeferred hD9, ?_⟩⟩
    have B9 := b9.kp (Kp.putAt w7 w0.heap.size (.deferred none)) (by have := HSZ.out; simp; omega)
    have K9 := K7.trans (Kp.putAt w7 w0.heap.size (.deferred none)) (U := []) (by simp) (fun x hx => .inr (by have := HSZ.out; simp at hx; omega))
    generalize w7.putObj w0.heap.size (.deferred none) = W9 at B9 K9 ⊢
    have q0 : W9.cell? ⟨w.heap.size + 1 + 1, 0, none⟩ = some (.int .i64 (ha.1 : Int)) := B9.cell 0
    have q1 : W9.cell? ⟨w.heap.size + 1 + 1, 1, none⟩ = some (.int .i64 (ha.2 : Int)) := B9.cell 1
    refine ⟨.agg #[.int .i64 (ha.1 : Int), .int .i64 (ha.2 : Int)], ?_, rfl, K9⟩
    simp [results, Try.results110, q0, q1, go_sem]
  case stop =>
    rintro D c pre S W rfl hpre ⟨rfl, h⟩ hDK
    have HH := hid h
    clear h
    gi_wp2
    refine ⟨by simp, .inl ⟨_, _, rfl, run_takeDeferred hDK, ?_⟩⟩
    have B9 := HH.out.r.kp (Kp.putAt W w0.heap.size (.deferred none)) (by have := HSZ.out; simp; omega)
    have K9 := HH.out.kp.trans (Kp.putAt W w0.heap.size (.deferred none)) (U := []) (by simp) (fun x hx => .inr (by have := HSZ.out; simp at hx; omega))
    generalize W.putObj w0.heap.size (.deferred none) = W9 at B9 K9 ⊢
    have q0 : W9.cell? ⟨w.heap.size + 1 + 1, 0, none⟩ = some (.int .i64 (ha.1 : Int)) := B9.cell 0
    have q1 : W9.cell? ⟨w.heap.size + 1 + 1, 1, none⟩ = some (.int .i64 (ha.2 : Int)) := B9.cell 1
    refine ⟨.agg #[.int .i64 (ha.1 : Int), .int .i64 (ha.2 : Int)], ?_, rfl, K9⟩
    simp [results, Try.results110, q0, q1, go_sem]
end
end Go.Proofs.Ytkkmlllajfafcaa
