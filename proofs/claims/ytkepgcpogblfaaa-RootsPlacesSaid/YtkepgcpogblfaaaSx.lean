/-
  Replace, and replacing back, on all values; all beside the document's roots of another state. Conditions: those that stand in each theorem.
-/
import Derived.Test.YtkepgcpogblfaaaSv
namespace Go.Proofs.Ytkepgcpogblfaaa
set_option linter.unusedVariables false
set_option linter.unusedSimpArgs false
open Go.RowKit Go.Deep Go.Maps

theorem pos_not {f : List Int} (h : posB f = true) {y : Int} (hy : y ≤ 0) : f.contains y = false := by
  rcases hc : f.contains y
  · rfl
  · obtain ⟨i, hi, e⟩ := List.mem_iff_getElem.1 (List.contains_iff_mem.1 hc)
    have := posB_iff.1 h i hi
    rw [List.getD_eq_getElem?_getD, List.getElem?_eq_getElem hi] at this
    simp only [Option.getD_some] at this
    omega
theorem repl_zero {f tt : List Int} (h : posB f = true) : repl f tt 0 = 0 := by unfold repl; rw [pos_not h (Int.le_refl 0)]; rfl
structure Reps (t s : RT) (c : Nat) (f tt : List Int) : Prop where
  ok : s.Ok
  n : s.n = t.n
  q : s.qu.length = t.qu.length
  every : s.every = t.every
  vals : s.vals = t.vals.map (repl f tt)
  count : c = t.vals.countP (fun y => f.contains y)
theorem reps_all {t : RT} (ok : t.Ok) {f tt : List Int} (hf : posB f = true) : Reps t (t.reps f tt t.xs).1 (t.reps f tt t.xs).2 f tt := by
  obtain ⟨h1, h2, h3, h4, h5⟩ := reps_at ok f tt t.xs (nodup_xs t) (fun p hp => (mem_xs ok hp).1)
  refine ⟨h1, h2, h3, every_of h2 h3, ?_, ?_⟩
  · unfold RT.vals
    rw [every_of h2 h3, List.map_map]
    apply List.map_congr_left
    intro q hq
    rw [h4 q (mem_every hq)]
    simp only [Function.comp]
    by_cases hx : q ∈ t.xs
    · rw [if_pos hx]
    · rw [if_neg hx]
      have h0 : t.at_ q = 0 := by
        rw [xs_every ok] at hx
        by_cases h0 : t.at_ q = 0
        · exact h0
        · exact absurd (List.mem_filter.2 ⟨hq, by simp [RT.nz, h0]⟩) hx
      rw [h0, repl_zero hf]
  · rw [h5, xs_every ok, List.countP_filter]
    unfold RT.vals
    rw [List.countP_map]
    congr 1
    funext p
    simp only [Function.comp, RT.nz]
    by_cases h0 : t.at_ p = 0
    · rw [h0, pos_not hf (Int.le_refl 0)]; rfl
    · simp [h0]
theorem getD_mem' {l : List Int} {j : Nat} (h : j < l.length) : l.getD j 0 ∈ l := by
  rw [List.getD_eq_getElem?_getD, List.getElem?_eq_getElem h]; exact List.getElem_mem h
theorem idx_of {f : List Int} (hr : risB f = true) {y : Int} (h : f.contains y = true) : f.getD (f.countP (· < y)) 0 = y ∧ f.countP (· < y) < f.length := by
  obtain ⟨i, hi, e⟩ := List.mem_iff_getElem.1 (List.contains_iff_mem.1 h)
  have e2 : f.getD i 0 = y := by rw [List.getD_eq_getElem?_getD, List.getElem?_eq_getElem hi, ← e]; rfl
  have := countP_at hr hi
  rw [e2] at this
  rw [this]
  exact ⟨e2, hi⟩
theorem repl_in {f tt : List Int} (hl : f.length = tt.length) (hr : risB f = true) {y : Int} (h : f.contains y = true) : tt.contains (repl f tt y) = true := by
  unfold repl
  rw [if_pos h]
  exact List.contains_iff_mem.2 (getD_mem' (by rw [← hl]; exact (idx_of hr h).2))
theorem cont_back {f tt : List Int} (hl : f.length = tt.length) (hr : risB f = true) {y : Int} (hy : tt.contains y = false) : tt.contains (repl f tt y) = f.contains y := by
  rcases hc : f.contains y
  · unfold repl; rw [hc]; exact hy
  · exact repl_in hl hr hc
theorem repl_back {f tt : List Int} (hl : f.length = tt.length) (hr : risB f = true) (hr2 : risB tt = true) {y : Int} (hy : tt.contains y = false) : repl tt f (repl f tt y) = y := by
  rcases hc : f.contains y
  · have e : repl f tt y = y := by unfold repl; rw [hc]; rfl
    rw [e]
    unfold repl
    rw [hy]
    rfl
  · obtain ⟨h1, h2⟩ := idx_of hr hc
    have e : repl f tt y = tt.getD (f.countP (· < y)) 0 := by unfold repl; rw [if_pos hc]
    have hin := repl_in (tt := tt) hl hr hc
    unfold repl at hin ⊢
    rw [if_pos hc] at hin ⊢
    rw [if_pos hin, countP_at hr2 (by rw [← hl]; exact h2)]
    exact h1
/-- No value is one of these. -/
def freshV (l tt : List Int) : Bool := l.all fun y => !(tt.contains y)
theorem freshV_snoc (l tt : List Int) (y : Int) : freshV (l ++ [y]) tt = (freshV l tt && !(tt.contains y)) := by simp [freshV, List.all_append]
theorem fresh_at {l tt : List Int} (h : freshV l tt = true) {y : Int} (hy : y ∈ l) : tt.contains y = false := by
  have := List.all_eq_true.1 h y hy
  simpa using this
theorem reps_back {t s : RT} {c : Nat} {f tt : List Int} (R : Reps t s c f tt) (hg : repB f tt = true) (hr2 : risB tt = true) (hf : freshV t.vals tt = true) :
    repB tt f = true ∧ (s.reps tt f s.xs).1.vals = t.vals ∧ (s.reps tt f s.xs).2 = c ∧ (s.reps tt f s.xs).1.every = t.every := by
  unfold repB at hg
  simp only [Bool.and_eq_true, decide_eq_true_eq] at hg
  obtain ⟨⟨⟨hl, hpf⟩, hpt⟩, hri⟩ := hg
  have R2 := reps_all (tt := f) R.ok hpt
  refine ⟨?_, ?_, ?_, R2.every.trans R.every⟩
  · unfold repB
    rw [decide_eq_true hl.symm, hpt, hpf, hr2]
    rfl
  · rw [R2.vals, R.vals, List.map_map]
    conv => rhs; rw [← List.map_id t.vals]
    apply List.map_congr_left
    intro y hy
    exact repl_back hl hri hr2 (fresh_at hf hy)
  · rw [R2.count, R.vals, List.countP_map, R.count]
    apply List.countP_congr
    intro y hy
    simp only [Function.comp]
    rw [cont_back hl hri (fresh_at hf hy)]
/-- What an address becomes, after the first j of the list. -/
def replTo (f tt : List Int) (y : Int) (j : Nat) : Int := if (f.take j).contains y then tt.getD (f.countP (· < y)) 0 else y
theorem replTo_end (f tt : List Int) (y : Int) : replTo f tt y f.length = repl f tt y := by unfold replTo repl; rw [List.take_length]
theorem replTo_same {f tt : List Int} {y : Int} {j : Nat} (hj : j < f.length) (h : f.getD j 0 ≠ y) : replTo f tt y (j + 1) = replTo f tt y j ∧ (f.take (j + 1)).contains y = (f.take j).contains y := by
  have e := contains_snoc f j y hj
  rw [beq_eq_false_iff_ne.2 h, Bool.or_false] at e
  exact ⟨by unfold replTo; rw [e], e⟩
theorem replTo_hit {f tt : List Int} {y : Int} {j : Nat} (hr : risB f = true) (hj : j < f.length) (h : f.getD j 0 = y) : replTo f tt y (j + 1) = tt.getD j 0 ∧ (f.take j).contains y = false ∧ (f.take (j + 1)).contains y = true := by
  have hn : (f.take j).contains y = false := by
    rcases hc : (f.take j).contains y
    · rfl
    · exact absurd h (take_once hr hj hc)
  have e := contains_snoc f j y hj
  rw [hn, h] at e
  simp only [beq_self_eq_true, Bool.or_true] at e
  refine ⟨?_, hn, e⟩
  unfold replTo
  rw [if_pos e, ← h, countP_at hr hj]
def risTo (zs : List Int) (k : Nat) : Bool := (List.range k).all fun i => decide (i = 0 ∨ zs.getD (i - 1) 0 < zs.getD i 0)
theorem risTo_end (zs : List Int) : risTo zs zs.length = risB zs := rfl
theorem risTo_succ (zs : List Int) (k : Nat) : risTo zs (k + 2) = (risTo zs (k + 1) && decide (zs.getD k 0 < zs.getD (k + 1) 0)) := by
  unfold risTo
  rw [List.range_succ, List.all_append]
  simp
theorem risTo_one (zs : List Int) : risTo zs 1 = true := by simp [risTo]
section
variable {w0 w w' : World} {b : RB} {tb : TB} {t s : RT}
set_option maxRecDepth 100000 in
set_option maxHeartbeats 2000000 in
theorem all_ok2 (h : P2 w0 b tb s t w) (he : s.every = t.every) :
    Calls Try.prog 24 #[.pointer (some ⟨b.g, 0, none⟩), .pointer (some ⟨tb.g, 0, none⟩)] w (RowP w.heap.size w s.vals) := by
  have H := hid h
  obtain ⟨i0, hi0, hz0, hz1, hz2⟩ := info_parts infoInt
  have hel := every_le h.rr.ok
  have HE := hid he
  clear h he
  go_enter Try.func24, Try.ntmps24
  go_wp2_with (fail)
  refine (t_every H.out.tr).mono ?_
  rw [← HE.out]
  rintro e w1 ⟨v1, rfl, own1, bel1⟩
  have HR1 := hid (H.out.rr.kp0 (Kp.of_below bel1))
  have HB1 := hid bel1
  obtain ⟨A, cap, rfl, _, hA⟩ := IsPl.of_own own1
  have HA := hid hA
  clear own1 bel1 hA
  go_wp2
  go_loopw [5, 7] (fun out c wr => ∃ k : Nat, k ≤ s.every.length ∧ c = .int .i64 (k : Int) ∧ IRow w1 w1.heap.size ((s.every.take k).map s.at_) out wr) (fun _ c _ => s.every.length - (intOf c).toNat)
  case atStart => exact ⟨0, by omega, rfl, IRow.nil w1 _⟩
  case round =>
    obtain ⟨k, hk, rfl, P⟩ := hrel
    have HP := hid P
    have HRK := hid (HR1.out.kp0 (Kp.of_below P.bel))
    have HLN : Hid (((s.every.take k).map s.at_).length ≤ 144) := by
      have h2 : (s.every.take k).length ≤ k := List.length_take_le _ _
      show _ ≤ _
      rw [List.length_map]
      omega
    by_cases hlt : k < s.every.length
    · obtain ⟨g, rfl, q0, q1, q2⟩ := HA.out k hlt
      have HHAS := hid (mem_every (t := s) (p := s.every.getD k ⟨0, 0, 0⟩) (by rw [List.getD_eq_getElem?_getD, List.getElem?_eq_getElem hlt]; exact List.getElem_mem hlt))
      have HTS := hid (vals_snoc hlt)
      generalize s.every.getD k ⟨0, 0, 0⟩ = p at q0 q1 q2 HHAS HTS
      have d0 := cell_kp (Kp.of_below P.bel) q0
      have d1 := cell_kp (Kp.of_below P.bel) q1
      have d2 := cell_kp (Kp.of_below P.bel) q2
      have hg := r_get HRK.out (p.k : Int) (p.m : Int) (p.i : Int)
      rw [show s.getV (p.k : Int) (p.m : Int) (p.i : Int) = s.at_ p by simp [RT.getV, HHAS.out, RT.at_], show s.getE (p.k : Int) (p.m : Int) (p.i : Int) = 0 by simp [RT.getE, HHAS.out]] at hg
      have HG := hid hg
      generalize s.at_ p = y at HG HTS hg
      have NONE := one_cell y
      clear q0 q1 q2 P hg
      go_wp2_with (first
        | (go_at_call 32; refine HG.out.mono ?_; rintro e w3 ⟨rfl, K3⟩; have HP3 := hid (HP.out.kp0 (Nat.le_refl _) K3); have HN := hid (one_new0 w3 y); clear K3)
        | (at_builtin; go_loud (refine wpList_append_own_at _ rfl (.tmp 27) (.tmp 29) 34 rfl w1.heap.size 3 i0 (.int .i64 0) 1 8 Try.underlying34 hi0 hz0 hz1 hz2 rfl (by decide) _ _ _ rfl (HP3.out.own.alloc _) ⟨w3.heap.size, 0, none⟩ 1 1 [.int .i64 y] rfl rfl HN.out NONE (by have := HLN.out; unfold maxLen; omega) (by have := HLN.out; omega) (by have := HP3.out.bel.size; simp; omega) ?_; intro v' w9 hown' hgr _ hat; have HP9 := hid (HP3.out.step (x := y) (Nat.le_refl _) hown' hgr); clear hown' hgr hat)))
      go_roundw
      case rel => exact ⟨k + 1, by omega, by go_num, by rw [HTS.out]; exact HP9.out⟩
      case measure => simp [intOf]; omega
    · obtain rfl : k = s.every.length := by omega
      clear P
      go_wp2
      go_ret
      have hf := HP.out
      rw [List.take_length] at hf
      exact ⟨_, rfl, own_base hf.own HB1.out.size, HB1.out.trans (below_mono hf.bel HB1.out.size)⟩
end
end Go.Proofs.Ytkepgcpogblfaaa
