/-
  The contract of the document's roots' Pop. Conditions: those that stand in each theorem.
-/
import Derived.Test.YtnidadhoojbmeaaSf
namespace Go.Proofs.Ytnidadhoojbmeaa
set_option linter.unusedVariables false
set_option linter.unusedSimpArgs false
open Go.RowKit Go.Deep Go.Maps

section
variable {w w' W : World} {b : TB} {t : RT}
set_option maxRecDepth 100000 in
set_option maxHeartbeats 1000000 in
theorem t_pop (T : TR w b t) :
    Calls Try.prog 29 #[.pointer (some ⟨b.g, 0, none⟩)] w fun e w' => e = .returned (.tuple #[.int .i64 t.popV, .int .i64 t.popE]) ∧ TChg w b t.popM w' := by
  have HT := hid T
  obtain ⟨i0, hi0, hz0, hz1, hz2⟩ := info_parts infoInt
  rcases T.q_form with ⟨hv, h0⟩ | ⟨g, cap, hv, hc1, hc2, hcl⟩
  · have e2 : t.popE = 4 := by simp [RT.popE, h0]
    have e1 : t.popV = 0 := by simp [RT.popV, h0]
    have e3 : t.popM = t := by simp [RT.popM, h0]; cases t; simp at h0 ⊢; exact h0
    have hcq := T.c2
    rw [hv] at hcq
    rw [e1, e2, e3]; clear e1 e2 e3 T h0 hv
    go_enter Try.func29, Try.ntmps29
    go_wp2_with (go_at_call 26; refine (t_made HT.out).mono ?_; rintro e w' ⟨rfl, n1, rfl⟩)
    go_ret2
    exact ⟨rfl, TChg.same HT.out (Kp.draw _ _)⟩
  · have hql := T.ok.qu
    have hcq := T.c2
    rw [hv] at hcq
    by_cases h0 : t.qu = []
    · have e2 : t.popE = 4 := by simp [RT.popE, h0]
      have e1 : t.popV = 0 := by simp [RT.popV, h0]
      have e3 : t.popM = t := by simp [RT.popM, h0]; cases t; simp at h0 ⊢; exact h0
      have hl0 : ((t.qu.length : Nat) : Int) = 0 := by rw [h0]; rfl
      rw [e1, e2, e3]; clear e1 e2 e3 T h0 hv hcl
      go_enter Try.func29, Try.ntmps29
      go_wp2_with (go_at_call 26; refine (t_made HT.out).mono ?_; rintro e w' ⟨rfl, n1, rfl⟩)
      go_ret2
      exact ⟨rfl, TChg.same HT.out (Kp.draw _ _)⟩
    · have e2 : t.popE = 0 := by simp [RT.popE, h0]
      have e3 : t.popM = { t with qu := t.qu.drop 1 } := rfl
      rw [e2, e3]
      have hpos : 0 < t.qu.length := List.length_pos_iff.2 h0
      have hz : ((t.qu.length : Nat) : Int) ≠ 0 := by omega
      have hz1' : (((t.qu.length : Nat) : Int) == 0) = false := beq_eq_false_iff_ne.2 hz
      have hz2' : (t.qu.length == 0) = false := beq_eq_false_iff_ne.2 (by omega)
      have hc0 : w.cell? ⟨g, 0, none⟩ = some (.int .i64 t.popV) := hcl 0 hpos
      have hcqa : ∀ n, ((w.drewN n).alloc (.cells #[] 3)).cell? ⟨b.g, 2, none⟩ = _ := fun n => cell_kp ((Kp.draw w n).chain (Kp.new _ (.cells #[] 3))) hcq
      have HQD : Hid (∀ n j u, (zcells (t.qu.drop 1))[j]? = some u → ((w.drewN n).alloc (.cells #[] 3)).cell? ⟨g, 1 + j, none⟩ = some u) := fun n j u hu => by
        have hj := (List.getElem?_eq_some_iff.1 hu).1
        rw [zcells_length, List.length_drop] at hj
        have h1 := cell_kp ((Kp.draw w n).chain (Kp.new _ (.cells #[] 3))) (hcl (1 + j) (by omega))
        have hj2 : 1 + j < t.qu.length := by omega
        rw [h1, ← hu, zcells, List.getElem?_map, List.getElem?_drop, List.getD_eq_getElem?_getD, List.getElem?_eq_getElem hj2]
        rfl
      have HG : Hid (∀ W : World, Kp [] w W → ∃ u, W.cell? ⟨b.g, 2, none⟩ = some u ∧ W.frozen? ⟨b.g, 2, none⟩ = false) := fun W k => by
        have G2 := HT.out.G.kp k (by simp)
        exact ⟨_, G2.cell 2, G2.frozen 2⟩
      have HFIN : Hid (∀ w9 v, w9.ownsRow w.heap.size 3 1 v (t.qu.length - 1) (zcells (t.qu.drop 1)) → Kp [] w w9 → TChg w b { t with qu := t.qu.drop 1 } (w9.setCell ⟨b.g, 2, none⟩ v)) := fun w9 v own k => by
        refine HT.out.chgQ (by simp; omega) (k.mono (by simp)) (own_base ?_ (Nat.zero_le w.heap.size)) (fun g' hg => .inr ?_)
        · rw [List.length_drop]; exact own
        · rcases own.2 with ⟨hv', _⟩ | ⟨g2, c2, cur, hv', hle, _⟩
          · rw [hv'] at hg; simp [Value.ownBlock] at hg
          · rw [hv'] at hg; simp [Value.ownBlock] at hg; omega
      have HLD : Hid ((zcells (t.qu.drop 1)).length = (t.qu.length - 1) * 1) := by show _ = _; rw [zcells_length, Nat.mul_one, List.length_drop]
      have HONE := hid (zcells_one (t.qu.drop 1))
      unfold maxLen at hc2
      generalize t.popV = pv at hc0 ⊢
      by_cases hcap : cap = 1
      · subst hcap
        have hl1 : t.qu.length = 1 := by omega
        have HL1 := hid hl1
        have hl1i : ((t.qu.length : Nat) : Int) = 1 := by omega
        rw [hl1] at hcq hcqa
        have hfa : ∀ n, ((w.drewN n).alloc (.cells #[] 3)).frozen? ⟨b.g, 2, none⟩ = false := fun n => by
          obtain ⟨u, _, h⟩ := HG.out _ ((Kp.draw w n).chain (Kp.new _ (.cells #[] 3)))
          exact h
        have HD1 : Hid (t.qu.drop 1 = []) := List.eq_nil_of_length_eq_zero (by rw [List.length_drop]; omega)
        clear e2 e3 T h0 hv hcl hz hz1' hz2' hl1i hl1
        go_enter Try.func29, Try.ntmps29
        go_wp2_with (go_at_call 26; refine (t_made HT.out).mono ?_; rintro e w' ⟨rfl, n1, rfl⟩)
        go_ret2
        have hf := HFIN.out ((w.drewN n1).alloc (.cells #[] 3)) (.slice (some ⟨w.heap.size, 0, none⟩) 0 0) (by rw [HD1.out, HL1.out]; exact own_empty (w.drewN n1) 3) ((Kp.draw w n1).chain (Kp.new _ _))
        exact ⟨rfl, hf⟩
      · have hcn : ¬ (cap : Int) = 1 := by omega
        have hl1 : (1 : Int) ≤ (t.qu.length : Int) := by omega
        have hlc : (t.qu.length : Int) ≤ (cap : Int) := by omega
        clear e2 e3 T h0 hv hcl hz
        go_enter Try.func29, Try.ntmps29
        go_wp2_with (first
          | (go_at_call 26; refine (t_made HT.out).mono ?_; rintro e w' ⟨rfl, n1, rfl⟩)
          | (at_builtin; go_loud (refine wpList_append_own_at _ rfl (.tmp 21) (.tmp 26) 34 rfl w.heap.size 3 i0 (.int .i64 0) 1 8 Try.underlying34 hi0 hz0 hz1 hz2 rfl (by decide) (.slice (some ⟨w.heap.size, 0, none⟩) 0 0) 0 [] rfl (own_empty (w.drewN n1) 3) ⟨g, 1, none⟩ (t.qu.length - 1) (cap - 1) (zcells (t.qu.drop 1)) rfl HLD.out (fun j u hu => by rw [addr_off]; exact HQD.out n1 j u hu) HONE.out (by unfold maxLen; omega) (by omega) (by simp [World.drewN]) ?_; intro v' w9 hown' hgr hiff hat; have hk9 : Kp [] w w9 := ((Kp.draw w n1).chain (Kp.new _ _)).trans (Kp.of_grown hgr) (by simp) (fun x hx => .inr (by simp [Value.ownBlock] at hx; omega)); obtain ⟨u9, hu9, hf9⟩ := HG.out w9 hk9; have HF := hid (HFIN.out w9 v' (by rw [Nat.zero_add, List.nil_append] at hown'; exact hown') hk9); obtain ⟨g9, c9, hv9⟩ : ∃ g c, v' = .slice (some ⟨g, 0, none⟩) (0 + (t.qu.length - 1)) c := (by rcases hown'.2 with ⟨hv, _⟩ | ⟨g9, c9, cur, hv9, _⟩; (· have := (hiff.1 hv).1; cases this); (· exact ⟨g9, c9, hv9⟩)); subst hv9; clear hown' hgr hat hk9 hiff)))
        go_ret2
        have hf := HF.out
        rw [Nat.zero_add] at hf
        exact ⟨rfl, hf⟩
end
end Go.Proofs.Ytnidadhoojbmeaa
