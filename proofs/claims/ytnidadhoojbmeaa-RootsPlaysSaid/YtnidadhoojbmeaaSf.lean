/-
  The contracts of the document's roots' Push, Pop, Queue. Conditions: those that stand in each theorem.
-/
import Derived.Test.YtnidadhoojbmeaaSe
namespace Go.Proofs.Ytnidadhoojbmeaa
set_option linter.unusedVariables false
set_option linter.unusedSimpArgs false
open Go.RowKit Go.Deep Go.Maps

section
variable {w w' W : World} {b : TB} {t : RT}
theorem zcells_one (zs : List Int) : ∀ u ∈ zcells zs, u.oneCell' = true := by
  intro u hu
  obtain ⟨x, _, rfl⟩ := List.mem_map.1 hu
  rfl
set_option maxRecDepth 100000 in
set_option maxHeartbeats 1000000 in
theorem t_push (T : TR w b t) (v : Int) :
    Calls Try.prog 28 #[.pointer (some ⟨b.g, 0, none⟩), .int .i64 v] w fun e w' => e = .returned (.int .i64 (t.pushE v)) ∧ TChg w b (t.pushM v) w' := by
  have HT := hid T
  by_cases h1 : v ≤ 0
  · have e2 : t.pushE v = 1 := by simp [RT.pushE, h1]
    have e1 : t.pushM v = t := by simp [RT.pushM, e2]
    rw [e1, e2]; clear e1 e2 T
    go_enter Try.func28, Try.ntmps28
    go_wp2_with (go_at_call 26; refine (t_made HT.out).mono ?_; rintro e w' ⟨rfl, n1, rfl⟩)
    go_ret
    exact ⟨rfl, TChg.same HT.out (Kp.draw _ _)⟩
  · obtain ⟨q, hq, hql⟩ : ∃ q, q = b.wv ∧ ∃ A cap, q = .slice A t.qu.length cap := by
      rcases T.q_form with ⟨hv, h0⟩ | ⟨g, cap, hv, _⟩
      · exact ⟨_, rfl, none, 0, by rw [hv, h0]; rfl⟩
      · exact ⟨_, rfl, _, _, hv⟩
    obtain ⟨A, cap, hqs⟩ := hql
    have hcq := T.c2
    rw [← hq, hqs] at hcq
    have hd : (0 : Int) < v := by omega
    by_cases h2 : 64 ≤ t.qu.length
    · have e2 : t.pushE v = 6 := by simp [RT.pushE, h1, h2]
      have e1 : t.pushM v = t := by simp [RT.pushM, e2]
      rw [e1, e2]; clear e1 e2 T
      have h3 : (64 : Int) ≤ (t.qu.length : Int) := by omega
      have h4 := HT.out.ok.qu
      clear hqs hq
      go_enter Try.func28, Try.ntmps28
      go_wp2_with (go_at_call 26; refine (t_made HT.out).mono ?_; rintro e w' ⟨rfl, n1, rfl⟩)
      go_ret
      exact ⟨rfl, TChg.same HT.out (Kp.draw _ _)⟩
    · have e2 : t.pushE v = 0 := by simp [RT.pushE, h1, h2]
      have e1 : t.pushM v = { t with qu := t.qu ++ [v] } := by simp [RT.pushM, e2]
      rw [e1, e2]; clear e1 e2 T
      obtain ⟨i0, hi0, hz0, hz1, hz2⟩ := info_parts infoInt
      have h3 : (t.qu.length : Int) < 64 := by omega
      have h4 := HT.out.ok.qu
      have HQS : Hid (b.wv = .slice A t.qu.length cap) := by rw [← hq]; exact hqs
      have HN := hid (one_new w v)
      have NONE := one_cell v
      have HOWN : Hid (∀ n, (w.drewN n).ownsRow 0 3 1 (.slice A t.qu.length cap) t.qu.length (zcells t.qu)) := fun n => by rw [← HQS.out]; exact (HT.out.kp0 (Kp.draw w n)).Q
      have hgc : ∀ W : World, Kp (Value.slice A t.qu.length cap).ownBlock.toList w W → ∃ u, W.cell? ⟨b.g, 2, none⟩ = some u ∧ W.frozen? ⟨b.g, 2, none⟩ = false := fun W k => by
        have hg : b.g ∉ (Value.slice A t.qu.length cap).ownBlock.toList := by
          rw [← HQS.out]
          intro hm
          exact (HT.out.nd'.2.2.2.1 b.g (by simpa using hm)).1 rfl
        have G2 := HT.out.G.kp k hg
        exact ⟨_, G2.cell 2, G2.frozen 2⟩
      have HGC := hid hgc
      clear hqs hq hgc
      go_enter Try.func28, Try.ntmps28
      go_wp2_with (first
        | (go_at_call 26; refine (t_made HT.out).mono ?_; rintro e w' ⟨rfl, n1, rfl⟩)
        | (at_builtin; go_loud (refine wpList_append_own_at _ rfl (.tmp 20) (.tmp 22) 34 rfl 0 3 i0 (.int .i64 0) 1 8 Try.underlying34 hi0 hz0 hz1 hz2 rfl (by decide) _ _ _ rfl ((HOWN.out n1).alloc _) ⟨w.heap.size, 0, none⟩ 1 1 [.int .i64 v] rfl rfl (HN.out n1) NONE (by unfold maxLen; omega) (by omega) (Nat.zero_le _) ?_; intro v' w9 hown' hgr _ hat; have hk9 : Kp (Value.slice A t.qu.length cap).ownBlock.toList w w9 := ((Kp.draw w n1).chain (Kp.new _ _)).trans (Kp.of_grown hgr) (by simp) (fun x hx => .inl hx); obtain ⟨u9, hu9, hf9⟩ := HGC.out w9 hk9; obtain ⟨g9, c9, _, hv9, _⟩ := own_form hown' (by omega); have HV9 := hid hv9; have HO' := hid hown'; have HK9 := hid hk9; have HAT : Hid (v'.ownBlock = (Value.slice A t.qu.length cap).ownBlock ∨ v'.ownBlock = some (w.heap.size + 1)) := (by first | exact hat | (simp [World.drewN] at hat; exact hat)); subst hv9; clear hown' hgr hat hk9)))
      go_ret
      have own2 : w9.ownsRow 0 3 1 (.slice (some ⟨g9, 0, none⟩) (t.qu.length + 1) c9) (t.qu ++ [v]).length (zcells (t.qu ++ [v])) := by
        have := HO'.out
        rw [List.length_append]
        simpa [zcells] using this
      have hk9 := HK9.out
      rw [← HQS.out] at hk9
      refine ⟨rfl, HT.out.chgQ (by simp; omega) hk9 own2 (fun g hg => ?_)⟩
      rcases HAT.out with e | e
      · exact .inl (by rw [HQS.out, ← e]; exact hg)
      · refine .inr ?_
        simp [Value.ownBlock] at e hg
        omega
theorem t_queue (T : TR w b t) :
    Calls Try.prog 37 #[.pointer (some ⟨b.g, 0, none⟩)] w (RowP w.heap.size w t.qu) := by
  have HT := hid T
  have hql := T.ok.qu
  obtain ⟨i0, hi0, hz0, hz1, hz2⟩ := info_parts infoInt
  rcases T.q_form with ⟨hv, h0⟩ | ⟨g, cap, hv, hc1, hc2, hcl⟩
  · have hcq := T.c2
    rw [hv] at hcq
    have hcqa : ∀ n, ((w.drewN n).alloc (.cells #[] 3)).cell? ⟨b.g, 2, none⟩ = _ := fun n => cell_kp ((Kp.draw w n).chain (Kp.new _ (.cells #[] 3))) hcq
    have H0 := hid h0
    have HE := hid (own_empty w 3)
    clear T h0 hv
    go_enter Try.func37, Try.ntmps37
    go_wp2_with (first
      | (go_at_call 26; refine (t_made HT.out).mono ?_; rintro e w' ⟨rfl, n1, rfl⟩)
      | (at_builtin; go_loud (refine wpList_append_own_none rfl (.tmp 6) (.tmp 10) 34 rfl w.heap.size 3 i0 1 Try.underlying34 hi0 (.slice (some ⟨w.heap.size, 0, none⟩) 0 0) 0 [] rfl (own_empty (w.drewN n1) 3) rfl ?_)))
    go_ret
    rw [H0.out]
    exact ⟨_, rfl, own_empty (w.drewN n1) 3, below_drewN ((Below.refl _ _).alloc (Nat.le_refl _) _) _⟩
  · have hcq := T.c2
    rw [hv] at hcq
    have hcqa : ∀ n, ((w.drewN n).alloc (.cells #[] 3)).cell? ⟨b.g, 2, none⟩ = _ := fun n => cell_kp ((Kp.draw w n).chain (Kp.new _ (.cells #[] 3))) hcq
    have HC : Hid (∀ n (j : Nat) (u : Value), (zcells t.qu)[j]? = some u → ((w.drewN n).alloc (.cells #[] 3)).cell? ((⟨g, 0, none⟩ : Addr).add j) = some u) := fun n j u hu => by
      have hj := (List.getElem?_eq_some_iff.1 hu).1
      rw [zcells_length] at hj
      rw [addr_off, Nat.zero_add]
      have h1 := cell_kp ((Kp.draw w n).chain (Kp.new _ (.cells #[] 3))) (hcl j hj)
      rw [h1, ← hu]
      simp [zcells, hj]
    have HLQ : Hid ((zcells t.qu).length = t.qu.length * 1) := by show _ = _; rw [zcells_length, Nat.mul_one]
    have HONE := hid (zcells_one t.qu)
    have HCM := hid hc2
    clear T hv hcl
    go_enter Try.func37, Try.ntmps37
    go_wp2_with (first
      | (go_at_call 26; refine (t_made HT.out).mono ?_; rintro e w' ⟨rfl, n1, rfl⟩)
      | (at_builtin; go_loud (refine wpList_append_own_at _ rfl (.tmp 6) (.tmp 10) 34 rfl w.heap.size 3 i0 (.int .i64 0) 1 8 Try.underlying34 hi0 hz0 hz1 hz2 rfl (by decide) (.slice (some ⟨w.heap.size, 0, none⟩) 0 0) 0 [] rfl (own_empty (w.drewN n1) 3) ⟨g, 0, none⟩ t.qu.length cap (zcells t.qu) rfl HLQ.out (HC.out n1) HONE.out (by unfold maxLen; omega) (by omega) (by simp [World.drewN]) ?_; intro v' w9 hown' hgr _ hat; have HO' := hid hown'; have HG := hid hgr; clear hown' hgr hat)))
    go_ret
    refine ⟨_, rfl, ?_, ?_⟩
    · have := HO'.out
      rwa [Nat.zero_add, List.nil_append] at this
    · have hb : Below w.heap.size w ((w.drewN n1).alloc (.cells #[] 3)) := below_drewN ((Below.refl _ _).alloc (Nat.le_refl _) _) _
      exact hb.grown HG.out (by simp [World.drewN]) (fun k hk => by simp [Value.ownBlock] at hk; omega)
end
end Go.Proofs.Ytnidadhoojbmeaa
