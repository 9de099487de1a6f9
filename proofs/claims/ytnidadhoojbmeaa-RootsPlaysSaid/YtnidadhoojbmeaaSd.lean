/-
  The contracts of the document's roots' set, Get, Set, Push, Queue, Mutators. Conditions: those that stand in each theorem.
-/
import Derived.Test.YtnidadhoojbmeaaSc
import Derived.Test.YtnidadhoojbmeaaRc
import Derived.Test.YtnidadhoojbmeaaRe
namespace Go.Proofs.Ytnidadhoojbmeaa
set_option linter.unusedVariables false
set_option linter.unusedSimpArgs false
open Go.RowKit Go.Deep Go.Maps

theorem mrow_same (t : RT) (m i : Nat) (v : Int) : ({ t with sl := t.sl.set (m * 16 + i) v } : RT).mrow m = (t.mrow m).set i v := by
  unfold RT.mrow
  rw [List.drop_set, if_neg (by omega), Nat.add_sub_cancel_left, List.take_set]
theorem mrow_other (t : RT) (m m' i : Nat) (v : Int) (hi : i < 16) (h : m' ≠ m) : ({ t with sl := t.sl.set (m * 16 + i) v } : RT).mrow m' = t.mrow m' := by
  unfold RT.mrow
  rw [List.drop_set]
  split
  · rfl
  · rename_i hc
    rw [List.take_set]
    exact List.set_eq_of_length_le (by simp; omega)
section
variable {w w' W : World} {b : TB} {t : RT}
/-- An address that is this place of the document's roots. -/
structure TSpot (b : TB) (t : RT) (k m i : Int) (a : Addr) : Prop where
  blk : a.block ∈ b.all
  set_ : ∀ W v, TR W b t → TR (W.setCell a (.int .i64 v)) b (t.set k m i v)
theorem TR.nd' (T : TR w b t) : b.g ≠ b.sb ∧ b.g ≠ b.gb ∧ b.sb ≠ b.gb ∧ (∀ g, b.wv.ownBlock = some g → g ≠ b.g ∧ g ≠ b.sb ∧ g ≠ b.gb ∧ g ∉ b.rows) ∧ b.g ∉ b.rows ∧ b.sb ∉ b.rows ∧ b.gb ∉ b.rows ∧ b.rows.Nodup := by
  have h := T.nd
  simp only [TB.all, List.nodup_cons, List.mem_cons, List.mem_append, Option.mem_toList, not_or, List.nodup_append] at h
  obtain ⟨⟨h1, h2, h3, h4⟩, ⟨h5, h6, h7⟩, ⟨h8, h9⟩, h10, h11, h12⟩ := h
  refine ⟨h1, h2, h5, fun g hg => ⟨?_, ?_, ?_, fun hm => h12 g (by simpa using hg) g hm rfl⟩, h4, h7, h9, h11⟩
  · rintro rfl; exact h3 hg
  · rintro rfl; exact h6 hg
  · rintro rfl; exact h8 hg
theorem rows_ne (T : TR w b t) {i j : Nat} (hi : i < t.n) (hj : j < t.n) (h : i ≠ j) : b.rows.getD i 0 ≠ b.rows.getD j 0 := by
  have hl := T.rl
  rw [List.getD_eq_getElem?_getD, List.getElem?_eq_getElem (show i < b.rows.length by omega), List.getD_eq_getElem?_getD, List.getElem?_eq_getElem (show j < b.rows.length by omega)]
  have hp := List.pairwise_iff_getElem.1 T.nd'.2.2.2.2.2.2.2
  rcases Nat.lt_or_gt_of_ne h with h1 | h1
  · exact hp i j _ _ h1
  · exact (hp j i _ _ h1).symm
theorem tspot_slot (m i : Nat) (hm : m < t.n) (hi : i < 16) (T0 : TR w b t) : TSpot b t 0 (m : Int) (i : Int) ⟨b.rows.getD m 0, i, none⟩ := by
  have e2 : ∀ v, t.set 0 (m : Int) (i : Int) v = { t with sl := t.sl.set (m * 16 + i) v } := fun v => by simp [RT.set]
  have hmem : b.rows.getD m 0 ∈ b.rows := T0.mem_row hm
  refine ⟨by simp only [TB.all, List.mem_cons, List.mem_append]; exact .inr (.inr (.inr (.inr hmem))), fun W v T => ?_⟩
  rw [e2]
  have k : Kp [b.rows.getD m 0] W (W.setCell ⟨b.rows.getD m 0, i, none⟩ (.int .i64 v)) := Kp.cell W ⟨b.rows.getD m 0, i, none⟩ _
  obtain ⟨n1, n2, n3, n4, n5, n6, n7, n8⟩ := T.nd'
  obtain ⟨sp, h1, h2, B⟩ := T.S
  have ok := T.ok
  refine ⟨⟨ok.n1, ok.n4, by simp [ok.sl], ok.gl, ok.qu⟩, T.nd, T.rl, T.G.kp k (by simp; intro e; exact n5 (e ▸ hmem)), ⟨sp, h1, h2, B.kp k (by simp; intro e; exact n6 (e ▸ hmem))⟩, fun j hj => ?_, T.GL.imp fun sp B => B.kp k (by simp; intro e; exact n7 (e ▸ hmem)), own_kps T.Q k (fun g hg => by simp; intro e; exact (n4 g hg).2.2.2 (e ▸ hmem))⟩
  by_cases hjm : j = m
  · subst hjm
    rw [mrow_same]
    obtain ⟨sp, B⟩ := T.R j hm
    have := B.set_ i (.int .i64 v)
    rw [zcells_set (by rw [(mrow_get ok hm hi).1]; exact hi)] at this
    exact ⟨sp, this⟩
  · rw [mrow_other t m j i v hi hjm]
    exact (T.R j hj).imp fun sp B => B.kp k (by simp; exact rows_ne T hj hm hjm)
theorem tspot_glob (i : Nat) (hi : i < 16) : TSpot b t 1 0 (i : Int) ⟨b.gb, i, none⟩ := by
  have e2 : ∀ v, t.set 1 0 (i : Int) v = { t with gl := t.gl.set i v } := fun v => by simp [RT.set]
  refine ⟨by simp [TB.all], fun W v T => ?_⟩
  rw [e2]
  have k : Kp [b.gb] W (W.setCell ⟨b.gb, i, none⟩ (.int .i64 v)) := Kp.cell W ⟨b.gb, i, none⟩ _
  obtain ⟨n1, n2, n3, n4, n5, n6, n7, n8⟩ := T.nd'
  obtain ⟨sp, h1, h2, B⟩ := T.S
  have ok := T.ok
  refine ⟨⟨ok.n1, ok.n4, ok.sl, by simp [ok.gl], ok.qu⟩, T.nd, T.rl, T.G.kp k (by simpa using n2), ⟨sp, h1, h2, B.kp k (by simpa using n3)⟩, fun j hj => (T.R j hj).imp fun sp B => B.kp k (by simp; intro e; exact n7 (e ▸ T.mem_row hj)), ?_, own_kps T.Q k (fun g hg => by simpa using (n4 g hg).2.2.1)⟩
  obtain ⟨sp, B⟩ := T.GL
  have := B.set_ i (.int .i64 v)
  rw [zcells_set (by rw [ok.gl]; exact hi)] at this
  exact ⟨sp, this⟩
theorem tspot_queue {g cap : Nat} (hv : b.wv = .slice (some ⟨g, 0, none⟩) t.qu.length cap) (i : Nat) (hi : i < t.qu.length) : TSpot b t 2 0 (i : Int) ⟨g, i, none⟩ := by
  have e2 : ∀ v, t.set 2 0 (i : Int) v = { t with qu := t.qu.set i v } := fun v => by simp [RT.set]
  refine ⟨by simp [TB.all, hv, Value.ownBlock], fun W v T => ?_⟩
  rw [e2]
  have k : Kp [g] W (W.setCell ⟨g, i, none⟩ (.int .i64 v)) := Kp.cell W ⟨g, i, none⟩ _
  obtain ⟨n1, n2, n3, n4, n5, n6, n7, n8⟩ := T.nd'
  have n4 := n4 g (by rw [hv]; rfl)
  obtain ⟨sp, h1, h2, B⟩ := T.S
  have ok := T.ok
  have Q := T.Q
  rw [hv] at Q
  refine ⟨⟨ok.n1, ok.n4, ok.sl, ok.gl, by simpa using ok.qu⟩, T.nd, T.rl, T.G.kp k (by simpa using n4.1.symm), ⟨sp, h1, h2, B.kp k (by simpa using n4.2.1.symm)⟩, fun j hj => (T.R j hj).imp fun sp B => B.kp k (by simp; intro e; exact n4.2.2.2 (e ▸ T.mem_row hj)), T.GL.imp fun sp B => B.kp k (by simpa using n4.2.2.1.symm), ?_⟩
  rw [hv]
  exact own_set Q hi v
set_option maxHeartbeats 2000000 in
set_option maxRecDepth 100000 in
theorem t_set (T : TR w b t) (k m i v : Int) (h : t.has k m i = true) :
    Calls Try.prog 46 #[.pointer (some ⟨b.g, 0, none⟩), .agg #[.int .i64 k, .int .i64 m, .int .i64 i], .int .i64 v] w fun e w' => e = .returned (.tuple #[]) ∧ TR w' b (t.set k m i v) ∧ Kp b.all w w' := by
  have K0 := Kp.new w (.cells #[.int .i64 k, .int .i64 m, .int .i64 i] 33)
  have T1 := T.kp0 K0
  have hc := T1.c0
  have hcg := T1.c1
  have hcq := T1.c2
  have h4 := T.ok.n4
  have h5 := T.ok.qu
  have hb := Blk.new w 33 #[.int .i64 k, .int .i64 m, .int .i64 i]
  have b0 := hb.cell 0
  have b1 := hb.cell 1
  have b2 := hb.cell 2
  have HK := hid K0
  have HT := hid T1
  rcases of_decide_eq_true h with ⟨rfl, h1, h2, h3, h4'⟩ | ⟨rfl, rfl, h3, h4'⟩ | ⟨rfl, rfl, h3, h4'⟩
  · obtain ⟨m, rfl⟩ : ∃ x : Nat, m = (x : Int) := ⟨m.toNat, by omega⟩
    obtain ⟨i, rfl⟩ : ∃ x : Nat, i = (x : Int) := ⟨i.toNat, by omega⟩
    have hcs := T1.cs (m := m) (by omega)
    have hcr := T1.cr (m := m) (i := i) (by omega) (by omega)
    have hfr := (T1.R m (by omega)).elim fun sp B => B.frozen i
    have HS := hid (tspot_slot m i (by omega) (by omega) T1)
    generalize t.sl.getD (m * 16 + i) 0 = x at hcr
    generalize b.rows.getD m 0 = y at hcs hcr hfr HS
    have hm : m < t.n := by omega
    have hi : i < 16 := by omega
    clear T K0 hb T1 h
    go_enter Try.func46, Try.ntmps46
    go_wp2
    go_region
    all_goals go_wp2
    all_goals go_end0
    all_goals exact ⟨rfl, (HS.out.set_ _ v HT.out).kp0 (Kp.draw _ 1), (HK.out.chain0 ((Kp.cell _ _ _).mono (fun x hx => .inl (by simp at hx; subst hx; exact HS.out.blk)))).drewN 1⟩
  · obtain ⟨i, rfl⟩ : ∃ x : Nat, i = (x : Int) := ⟨i.toNat, by omega⟩
    have hcr := T1.cg (i := i) (by omega)
    have hfr := T1.GL.elim fun sp B => B.frozen i
    have HS := hid (tspot_glob (b := b) (t := t) i (by omega))
    generalize t.gl.getD i 0 = x at hcr
    have hi : i < 16 := by omega
    clear T K0 hb T1 h
    go_enter Try.func46, Try.ntmps46
    go_wp2
    go_region
    all_goals go_wp2
    all_goals go_end0
    all_goals exact ⟨rfl, (HS.out.set_ _ v HT.out).kp0 (Kp.draw _ 1), (HK.out.chain0 ((Kp.cell _ _ _).mono (fun x hx => .inl (by simp at hx; subst hx; exact HS.out.blk)))).drewN 1⟩
  · obtain ⟨i, rfl⟩ : ∃ x : Nat, i = (x : Int) := ⟨i.toNat, by omega⟩
    rcases T1.q_form with ⟨hv, h0⟩ | ⟨g, c, hv, hl1, hl2, hcl⟩
    · rw [h0] at h4'; simp at h4'; omega
    · have hcr := hcl i (by omega)
      have hfr : (w.alloc (.cells #[.int .i64 2, .int .i64 0, .int .i64 (i : Int)] 33)).frozen? ⟨g, i, none⟩ = false := by
        have Q := T1.Q
        rw [hv] at Q
        rcases Q.2 with ⟨hv', _⟩ | ⟨g', cap', cur, hv', _, hb, _⟩
        · cases hv'
        · cases hv'
          exact Blk.frozen (cs := cur) (t := 3) hb _
      have HS := hid (tspot_queue hv i (by omega))
      rw [hv] at hcq
      generalize t.qu.getD i 0 = x at hcr
      have hi : i < t.qu.length := by omega
      unfold maxLen at hl2
      clear T K0 hb T1 h hcl hv
      go_enter Try.func46, Try.ntmps46
      go_wp2
      go_region
      all_goals go_wp2
      all_goals go_end0
      all_goals exact ⟨rfl, (HS.out.set_ _ v HT.out).kp0 (Kp.draw _ 1), (HK.out.chain0 ((Kp.cell _ _ _).mono (fun x hx => .inl (by simp at hx; subst hx; exact HS.out.blk)))).drewN 1⟩
theorem t_getp (T : TR w b t) (k m i : Int) :
    Calls Try.prog 31 #[.pointer (some ⟨b.g, 0, none⟩), .agg #[.int .i64 k, .int .i64 m, .int .i64 i]] w fun e w' => e = .returned (.tuple #[.int .i64 (t.getV k m i), .int .i64 (t.getE k m i)]) ∧ Kp [] w w' := by
  have K0 := Kp.new w (.cells #[.int .i64 k, .int .i64 m, .int .i64 i] 33)
  have hb := Blk.new w 33 #[.int .i64 k, .int .i64 m, .int .i64 i]
  have HB := hid hb
  have HT := hid (T.kp0 K0)
  have HK := hid K0
  have b0 := hb.cell 0
  have b1 := hb.cell 1
  have b2 := hb.cell 2
  rcases h : t.has k m i
  · have e1 : t.getV k m i = 0 := by simp [RT.getV, h]
    have e2 : t.getE k m i = 1 := by simp [RT.getE, h]
    rw [e1, e2]
    have H := hid h
    clear h e1 e2 K0 hb T
    go_enter Try.func31, Try.ntmps31
    go_wp2_with (first
      | (go_at_call 26; refine (t_made HT.out).mono ?_; rintro e w' ⟨rfl, n1, rfl⟩; have HT2 := hid (HT.out.kp0 (Kp.draw _ n1)))
      | (go_at_call 45; refine (t_has HT2.out k m i).mono ?_; rintro e w2 ⟨rfl, K2⟩; rw [H.out]; have HK2 := hid ((HK.out.drewN n1).chain K2); clear K2))
    go_ret2
    exact ⟨rfl, HK2.out⟩
  · have e1 : t.getV k m i = t.get k m i := by simp [RT.getV, h]
    have e2 : t.getE k m i = 0 := by simp [RT.getE, h]
    rw [e1, e2]
    have H := hid h
    clear h e1 e2 K0 hb T
    generalize hx : t.get k m i = x
    have HX := hid hx
    clear hx
    go_enter Try.func31, Try.ntmps31
    go_wp2_with (first
      | (go_at_call 26; refine (t_made HT.out).mono ?_; rintro e w' ⟨rfl, n1, rfl⟩; have HT2 := hid (HT.out.kp0 (Kp.draw _ n1)))
      | (go_at_call 45; refine (t_has HT2.out k m i).mono ?_; rintro e w2 ⟨rfl, K2⟩; rw [H.out]; have HK2 := hid ((HK.out.drewN n1).chain K2); have HT3 := hid (HT2.out.kp0 K2); have hb2 := (HB.out.kp (Kp.draw _ n1) (by simp)).kp K2 (by simp); have d0 := hb2.cell 0; have d1 := hb2.cell 1; have d2 := hb2.cell 2; clear K2 hb2)
      | (go_at_call 47; refine (t_get HT3.out k m i H.out).mono ?_; rintro e w3 ⟨rfl, K3⟩; rw [HX.out]; have HK3 := hid (HK2.out.chain K3); clear K3))
    go_ret2
    exact ⟨rfl, HK3.out⟩
theorem t_mutators (T : TR w b t) :
    Calls Try.prog 33 #[.pointer (some ⟨b.g, 0, none⟩)] w fun e w' => e = .returned (.int .i64 (t.n : Int)) ∧ ∃ m, w' = w.drewN m := by
  have hc := T.c0
  have HT := hid T
  clear T
  go_enter Try.func33, Try.ntmps33
  go_wp2_with (go_at_call 26; refine (t_made HT.out).mono ?_; rintro e w' ⟨rfl, n1, rfl⟩)
  go_ret
  exact ⟨rfl, _, rfl⟩
end
end Go.Proofs.Ytnidadhoojbmeaa
