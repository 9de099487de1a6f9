/-
  The contracts of package roots' Push, Queue, Pop, New. Conditions: those that stand in each theorem.
-/
import Derived.Test.YtnidadhoojbmeaaRc
namespace Go.Proofs.Ytnidadhoojbmeaa
set_option linter.unusedVariables false
set_option linter.unusedSimpArgs false
open Go.RowKit Go.Deep Go.Maps

section
variable {w w' W : World} {b : RB} {t : RT}
/-- Another queue. -/
theorem RR.setQ {v : Value} {q : List Int} (R : RR w b t) (hq : q.length ≤ 64) (k : Kp b.qv.ownBlock.toList w w') (own : w'.ownsRow 0 3 1 v q.length (zcells q)) :
    RR (w'.setCell ⟨b.g, 17, none⟩ v) ⟨b.g, b.sb, v⟩ { t with qu := q } := by
  obtain ⟨c, sp, h1, h2, h3, G, B⟩ := R.mem
  have hg : b.g ∉ b.qv.ownBlock.toList ∧ b.sb ∉ b.qv.ownBlock.toList := by
    rcases R.q_form with ⟨hv, _⟩ | ⟨g', cap, hv, _, _, hne1, hne2, _⟩
    · rw [hv]; simp [Value.ownBlock]
    · rw [hv]; simp [Value.ownBlock]; exact ⟨hne1.symm, hne2.symm⟩
  have G2 := G.kp k hg.1
  have B2 := B.kp k hg.2
  have k2 : Kp [b.g] w' (w'.setCell ⟨b.g, 17, none⟩ v) := Kp.cell w' ⟨b.g, 17, none⟩ v
  have G3 := G2.set_ 17 v
  have e : (rcell b t c).setIfInBounds 17 v = rcell ⟨b.g, b.sb, v⟩ { t with qu := q } c := by
    unfold rcell
    rw [List.setIfInBounds_toArray, show 17 = 16 + 1 from rfl, List.set_cons_succ, List.set_append_right _ _ (by rw [zcells_length]; exact Nat.le_of_eq R.ok.gl), zcells_length, R.ok.gl]
    rfl
  rw [e] at G3
  refine ⟨⟨R.ok.n1, R.ok.n4, R.ok.sl, R.ok.gl, hq⟩, ⟨c, sp, h1, h2, h3, G3, B2.kp k2 (by simp; exact B2.ne_ G2 (by decide))⟩, own_kps own k2 (fun g hg => ?_)⟩
  rcases own.2 with ⟨hv, _⟩ | ⟨g', cap, cur, hv, _, hb, _⟩
  · rw [hv] at hg; simp [Value.ownBlock] at hg
  · rw [hv] at hg; simp [Value.ownBlock] at hg; subst hg
    have hB : Blk w' g' 3 cur := hb
    simp
    exact hB.ne_ G2 (by decide)
set_option maxRecDepth 100000 in
set_option maxHeartbeats 1000000 in
theorem r_push (R : RR w b t) (v : Int) :
    Calls Try.prog 15 #[.pointer (some ⟨b.g, 0, none⟩), .int .i64 v] w fun e w' => e = .returned (.int .i64 (t.pushE v)) ∧ ChgP w b (t.pushM v) w' := by
  have HR := hid R
  by_cases h1 : v ≤ 0
  · have e2 : t.pushE v = 1 := by simp [RT.pushE, h1]
    have e1 : t.pushM v = t := by simp [RT.pushM, e2]
    rw [e1, e2]; clear e1 e2 R
    go_enter Try.func15, Try.ntmps15
    go_wp2_with (go_at_call 23; refine (r_made HR.out).mono ?_; rintro e w' ⟨rfl, n1, rfl⟩)
    go_ret
    exact ⟨rfl, ChgP.same HR.out (Kp.draw _ _)⟩
  · obtain ⟨q, hq, hql⟩ : ∃ q, q = b.qv ∧ ∃ A cap, q = .slice A t.qu.length cap := by
      rcases R.q_form with ⟨hv, h0⟩ | ⟨g, cap, hv, _⟩
      · exact ⟨_, rfl, none, 0, by rw [hv, h0]; rfl⟩
      · exact ⟨_, rfl, _, _, hv⟩
    obtain ⟨A, cap, hqs⟩ := hql
    have hcq := R.cq
    rw [← hq, hqs] at hcq
    have hd : (0 : Int) < v := by omega
    have HD := hid (R.drewN)
    by_cases h2 : 64 ≤ t.qu.length
    · have e2 : t.pushE v = 6 := by simp [RT.pushE, h1, h2]
      have e1 : t.pushM v = t := by simp [RT.pushM, e2]
      rw [e1, e2]; clear e1 e2 R
      have h3 : (64 : Int) ≤ (t.qu.length : Int) := by omega
      have h4 := HR.out.ok.qu
      clear hqs hq
      go_enter Try.func15, Try.ntmps15
      go_wp2_with (go_at_call 23; refine (r_made HR.out).mono ?_; rintro e w' ⟨rfl, n1, rfl⟩)
      go_ret
      exact ⟨rfl, ChgP.same HR.out (Kp.draw _ _)⟩
    · have e2 : t.pushE v = 0 := by simp [RT.pushE, h1, h2]
      have e1 : t.pushM v = { t with qu := t.qu ++ [v] } := by simp [RT.pushM, e2]
      rw [e1, e2]; clear e1 e2 R
      obtain ⟨i0, hi0, hz0, hz1, hz2⟩ := info_parts infoInt
      have h3 : (t.qu.length : Int) < 64 := by omega
      have h4 := HR.out.ok.qu
      have HQS : Hid (b.qv = .slice A t.qu.length cap) := by rw [← hq]; exact hqs
      have HN := hid (one_new w v)
      have NONE := one_cell v
      have HOWN : Hid (∀ n, (w.drewN n).ownsRow 0 3 1 (.slice A t.qu.length cap) t.qu.length (zcells t.qu)) := fun n => by rw [← HQS.out]; exact (HR.out.drewN n).Q
      have hgc : ∀ W : World, Kp (Value.slice A t.qu.length cap).ownBlock.toList w W → ∃ u, W.cell? ⟨b.g, 17, none⟩ = some u ∧ W.frozen? ⟨b.g, 17, none⟩ = false := fun W k => by
        obtain ⟨c, sp, _, _, _, G, _⟩ := HR.out.mem
        have hg : b.g ∉ (Value.slice A t.qu.length cap).ownBlock.toList := by
          rw [← HQS.out]
          rcases HR.out.q_form with ⟨hv, _⟩ | ⟨g', cap, hv, _, _, hne1, hne2, _⟩
          · rw [hv]; simp [Value.ownBlock]
          · rw [hv]; simp [Value.ownBlock]; exact hne1.symm
        have G2 := G.kp k hg
        exact ⟨_, (G2.cell 17).trans (rcell_q HR.out.ok.gl), G2.frozen 17⟩
      have HGC := hid hgc
      clear hqs hq hgc
      go_enter Try.func15, Try.ntmps15
      go_wp2_with (first
        | (go_at_call 23; refine (r_made HR.out).mono ?_; rintro e w' ⟨rfl, n1, rfl⟩)
        | (at_builtin; go_loud (refine wpList_append_own_at _ rfl (.tmp 20) (.tmp 22) 34 rfl 0 3 i0 (.int .i64 0) 1 8 Try.underlying34 hi0 hz0 hz1 hz2 rfl (by decide) _ _ _ rfl ((HOWN.out n1).alloc _) ⟨w.heap.size, 0, none⟩ 1 1 [.int .i64 v] rfl rfl (HN.out n1) NONE (by unfold maxLen; omega) (by omega) (Nat.zero_le _) ?_; intro v' w9 hown' hgr _ hat; have hk9 : Kp (Value.slice A t.qu.length cap).ownBlock.toList w w9 := ((Kp.draw w n1).chain (Kp.new _ _)).trans (Kp.of_grown hgr) (by simp) (fun x hx => .inl hx); obtain ⟨u9, hu9, hf9⟩ := HGC.out w9 hk9; obtain ⟨g9, c9, _, hv9, _⟩ := own_form hown' (by omega); have HV9 := hid hv9; have HO' := hid hown'; have HK9 := hid hk9; have HAT : Hid (v'.ownBlock = (Value.slice A t.qu.length cap).ownBlock ∨ v'.ownBlock = some (w.heap.size + 1)) := (by first | exact hat | (simp [World.drewN] at hat; exact hat)); subst hv9; clear hown' hgr hat hk9)))
      go_ret
      have own2 : w9.ownsRow 0 3 1 (.slice (some ⟨g9, 0, none⟩) (t.qu.length + 1) c9) (t.qu ++ [v]).length (zcells (t.qu ++ [v])) := by
        have := HO'.out
        rw [List.length_append]
        simpa [zcells] using this
      have hk9 := HK9.out
      rw [← HQS.out] at hk9
      refine ⟨rfl, ⟨b.g, b.sb, .slice (some ⟨g9, 0, none⟩) (t.qu.length + 1) c9⟩, rfl, HR.out.setQ (by simp; omega) hk9 own2, ?_, ?_⟩
      · exact hk9.trans (Kp.cell _ ⟨b.g, 17, none⟩ _) (fun x hx => .inl (by simp only [RB.all, List.mem_cons]; exact .inr (.inr hx))) (by simp [RB.all])
      · intro x hx
        simp only [RB.all, Value.ownBlock, List.mem_cons, Option.mem_toList] at hx ⊢
        rcases hx with rfl | rfl | hx
        · exact .inl (.inl rfl)
        · exact .inl (.inr (.inl rfl))
        · rcases HAT.out with e | e
          · have hz : b.qv.ownBlock = some x := by rw [HQS.out, ← e]; simpa [Value.ownBlock] using hx
            exact .inl (.inr (.inr hz))
          · refine .inr ?_
            simp [Value.ownBlock] at e hx
            omega
/-- A queue without its first element: what Delete leaves. -/
theorem del_first {g cap : Nat} {q : List Int} (h : W.ownsRow 0 3 1 (.slice (some ⟨g, 0, none⟩) q.length cap) q.length (zcells q)) (hq : q ≠ []) (k : Nat) :
    (Go.Sort.putRow (Value.int .i64) (Go.Sort.ahead W k) g 0 (q.take 0 ++ q.drop 1 ++ List.replicate (1 - 0) 0).toArray).ownsRow 0 3 1 (.slice (some ⟨g, 0, none⟩) (q.length - (1 - 0)) cap) (q.drop 1).length (zcells (q.drop 1)) ∧
      Kp [g] W (Go.Sort.putRow (Value.int .i64) (Go.Sort.ahead W k) g 0 (q.take 0 ++ q.drop 1 ++ List.replicate (1 - 0) 0).toArray) := by
  have hpos : 0 < q.length := List.length_pos_iff.2 hq
  obtain ⟨hl, h2 | ⟨g', cap', cur, hv, hg, hb, h3, h4, h5, h6⟩⟩ := h
  · cases h2.1
  · cases hv
    generalize hd : (q.take 0 ++ q.drop 1 ++ List.replicate (1 - 0) 0).toArray = d
    have hds : d.size = q.length := by rw [← hd]; simp; omega
    have hlt : g < W.heap.size := by
      rcases Nat.lt_or_ge g W.heap.size with h1 | h1
      · exact h1
      · rw [Array.getElem?_eq_none h1] at hb; cases hb
    have hheap : ∀ j, (Go.Sort.putRow (Value.int .i64) (Go.Sort.ahead W k) g 0 d).heap[j]? = if g = j then some (.cells (Go.Sort.putCells (Value.int .i64) 0 d cur) 3 (0, 0)) else W.heap[j]? := fun j => by
      show (W.heap.modify g (Go.Sort.onCells (Go.Sort.putCells (Value.int .i64) 0 d)))[j]? = _
      rw [Array.getElem?_modify]
      by_cases hj : g = j
      · rw [if_pos hj, if_pos hj, ← hj, hb]; rfl
      · rw [if_neg hj, if_neg hj]
    refine ⟨⟨by simp [zcells], .inr ⟨g, cap, Go.Sort.putCells (Value.int .i64) 0 d cur, by simp, hg, ?_, by simp; omega, h4, ?_, ?_⟩⟩, ⟨rfl, rfl, rfl, by simp [Go.Sort.ahead], fun j hj hn => ?_⟩⟩
    · rw [hheap, if_pos rfl]
    · simp [Go.Sort.putCells, h5]
    · apply List.ext_getElem
      · simp [zcells, Go.Sort.putCells]; omega
      · intro i h7 h8
        have hi : i < q.length - 1 := by simpa [zcells] using h8
        rw [List.getElem_take]
        simp only [Go.Sort.putCells, Array.getElem_toList, Array.getElem_mapIdx]
        rw [if_pos ⟨Nat.zero_le _, by omega⟩]
        simp only [zcells, List.getElem_map, List.getElem_drop]
        congr 1
        rw [Nat.sub_zero, getElem!_pos d i (by omega)]
        subst hd
        simp [List.getElem_append, hi, Nat.add_comm]
    · rw [hheap, if_neg (by simpa using fun h => hn (by simp [h]))]
set_option maxRecDepth 100000 in
set_option maxHeartbeats 1000000 in
theorem r_pop (R : RR w b t) :
    Calls Try.prog 22 #[.pointer (some ⟨b.g, 0, none⟩)] w fun e w' => e = .returned (.tuple #[.int .i64 t.popV, .int .i64 t.popE]) ∧ ChgP w b t.popM w' := by
  have HR := hid R
  rcases R.q_form with ⟨hv, h0⟩ | ⟨g, cap, hv, hc1, hc2, hne1, hne2, hcl⟩
  · have e2 : t.popE = 4 := by simp [RT.popE, h0]
    have e1 : t.popV = 0 := by simp [RT.popV, h0]
    have e3 : t.popM = t := by simp [RT.popM, h0]; cases t; simp at h0 ⊢; exact h0
    have hcq := R.cq
    rw [hv] at hcq
    rw [e1, e2, e3]; clear e1 e2 e3 R h0 hv
    go_enter Try.func22, Try.ntmps22
    go_wp2_with (go_at_call 23; refine (r_made HR.out).mono ?_; rintro e w' ⟨rfl, n1, rfl⟩)
    go_ret2
    exact ⟨rfl, ChgP.same HR.out (Kp.draw _ _)⟩
  · have hql := R.ok.qu
    have hcq := R.cq
    rw [hv] at hcq
    by_cases h0 : t.qu = []
    · have e2 : t.popE = 4 := by simp [RT.popE, h0]
      have e1 : t.popV = 0 := by simp [RT.popV, h0]
      have e3 : t.popM = t := by simp [RT.popM, h0]; cases t; simp at h0 ⊢; exact h0
      have hl0 : ((t.qu.length : Nat) : Int) = 0 := by rw [h0]; rfl
      rw [e1, e2, e3]; clear e1 e2 e3 R h0 hv hcl
      go_enter Try.func22, Try.ntmps22
      go_wp2_with (go_at_call 23; refine (r_made HR.out).mono ?_; rintro e w' ⟨rfl, n1, rfl⟩)
      go_ret2
      exact ⟨rfl, ChgP.same HR.out (Kp.draw _ _)⟩
    · have e2 : t.popE = 0 := by simp [RT.popE, h0]
      rw [e2]
      have hpos : 0 < t.qu.length := List.length_pos_iff.2 h0
      have hz : ((t.qu.length : Nat) : Int) ≠ 0 := by omega
      have hz1 : (((t.qu.length : Nat) : Int) == 0) = false := beq_eq_false_iff_ne.2 hz
      have hz2 : (t.qu.length == 0) = false := beq_eq_false_iff_ne.2 (by omega)
      have hc0 : w.cell? ⟨g, 0, none⟩ = some (.int .i64 t.popV) := hcl 0 hpos
      have Q := R.Q
      rw [hv] at Q
      have HQ := hid Q
      have HV := hid hv
      have HH0 := hid h0
      unfold maxLen at hc2
      have HHOLD : Hid (∀ n, Go.Sort.Holds (Value.int .i64) (w.drewN n) g 0 t.qu.toArray) := fun n j hj => by
        have hj' : j < t.qu.length := by simpa using hj
        refine ⟨?_, ?_⟩
        · rw [Nat.zero_add]
          refine (hcl j hj').trans ?_
          rw [getElem!_pos t.qu.toArray j hj, List.getD_eq_getElem?_getD, List.getElem?_eq_getElem hj']
          rfl
        · rcases Q.2 with ⟨hv', _⟩ | ⟨g', cap', cur, hv', _, hb, _⟩
          · cases hv'
          · cases hv'
            exact Blk.frozen (cs := cur) (t := 3) hb _
      have HCAP : Hid (t.qu.length ≤ cap ∧ cap ≤ 9223372036854775807) := ⟨hc1, hc2⟩
      have hgc : ∀ W : World, Kp [g] w W → ∃ u, W.cell? ⟨b.g, 17, none⟩ = some u ∧ W.frozen? ⟨b.g, 17, none⟩ = false := fun W k => by
        obtain ⟨c, sp, _, _, _, G, _⟩ := HR.out.mem
        have G2 := G.kp k (by simpa using hne1.symm)
        exact ⟨_, (G2.cell 17).trans (rcell_q HR.out.ok.gl), G2.frozen 17⟩
      have HGC := hid hgc
      generalize t.popV = pv at hc0 ⊢
      clear e2 R h0 hv hcl hz Q hgc
      go_enter Try.func22, Try.ntmps22
      go_wp2_with (go_at_call 23; refine (r_made HR.out).mono ?_; rintro e w' ⟨rfl, n1, rfl⟩)
      refine (AnyG.slices_Delete_int Try.deleteL g 0 cap 0 1 t.qu _ (HHOLD.out _) HCAP.out.1 HCAP.out.2 (by omega) (by omega)).mono ?_
      rintro e w2 ⟨rfl, k, hw2⟩
      obtain ⟨O2, K2⟩ := del_first (W := w.drewN n1) (show (w.drewN n1).ownsRow _ _ _ _ _ _ from HQ.out) HH0.out k
      rw [← hw2] at O2 K2
      have hk9 : Kp [g] w w2 := K2.from_drewN
      obtain ⟨u9, hu9, hf9⟩ := HGC.out w2 hk9
      have HO2 := hid O2
      have HK9 := hid hk9
      clear hw2 O2 K2 hk9
      go_wp2
      go_ret2
      have hb9 : b.qv.ownBlock = some g := by rw [HV.out]; rfl
      have hk9 := HK9.out
      refine ⟨rfl, ⟨b.g, b.sb, .slice (some ⟨g, 0, none⟩) (t.qu.length - 1) cap⟩, rfl, HR.out.setQ (q := t.qu.drop 1) (by simp; omega) (by rw [hb9]; exact hk9) HO2.out, ?_, ?_⟩
      · exact hk9.trans (Kp.cell _ ⟨b.g, 17, none⟩ _) (fun x hx => .inl (by simp at hx; subst hx; simp [RB.all, hb9])) (by simp [RB.all])
      · intro x hx
        refine .inl ?_
        simp only [RB.all, List.mem_cons, Option.mem_toList, hb9]
        simp only [RB.all, Value.ownBlock, List.mem_cons, Option.mem_toList] at hx
        exact hx
end
end Go.Proofs.Ytnidadhoojbmeaa
