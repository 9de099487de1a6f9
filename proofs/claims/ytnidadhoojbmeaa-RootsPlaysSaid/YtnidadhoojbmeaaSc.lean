/-
  The document's roots in memory, and the contracts of their Made, has, get. Conditions: those that stand in each theorem.
-/
import Derived.Test.YtnidadhoojbmeaaRb
namespace Go.Proofs.Ytnidadhoojbmeaa
set_option linter.unusedVariables false
set_option linter.unusedSimpArgs false
open Go.RowKit Go.Deep Go.Maps

/-- Where the document's roots lie. -/
structure TB where
  g : Nat
  sb : Nat
  sc : Nat
  rows : List Nat
  caps : Nat → Nat
  gb : Nat
  gc : Nat
  wv : Value
def TB.all (b : TB) : List Nat := b.g :: b.sb :: b.gb :: (b.wv.ownBlock.toList ++ b.rows)
def rowv (g c : Nat) : Value := .slice (some ⟨g, 0, none⟩) 16 c
def TB.rvs (b : TB) (n : Nat) : List Value := (List.range n).map fun i => rowv (b.rows.getD i 0) (b.caps i)
def RT.mrow (t : RT) (m : Nat) : List Int := (t.sl.drop (m * 16)).take 16
structure TR (w : World) (b : TB) (t : RT) : Prop where
  ok : t.Ok
  nd : b.all.Nodup
  rl : b.rows.length = t.n
  G : Blk w b.g 62 #[.slice (some ⟨b.sb, 0, none⟩) t.n b.sc, .slice (some ⟨b.gb, 0, none⟩) 16 b.gc, b.wv]
  S : ∃ sp, t.n ≤ b.sc ∧ b.sc ≤ maxLen ∧ Blk w b.sb 34 (b.rvs t.n ++ sp).toArray
  R : ∀ i, i < t.n → ∃ sp, Blk w (b.rows.getD i 0) 3 (zcells (t.mrow i) ++ sp).toArray
  GL : ∃ sp, Blk w b.gb 3 (zcells t.gl ++ sp).toArray
  Q : w.ownsRow 0 3 1 b.wv t.qu.length (zcells t.qu)
theorem mrow_get {t : RT} (ok : t.Ok) {m i : Nat} (hm : m < t.n) (hi : i < 16) : (t.mrow m).length = 16 ∧ (t.mrow m).getD i 0 = t.sl.getD (m * 16 + i) 0 := by
  have hs := ok.sl
  unfold RT.mrow
  refine ⟨by simp; omega, ?_⟩
  rw [List.getD_eq_getElem?_getD, List.getElem?_take_of_lt hi, List.getElem?_drop, ← List.getD_eq_getElem?_getD]
section
variable {w w' W : World} {b : TB} {t : RT}
theorem TR.mem_row (T : TR w b t) {i : Nat} (hi : i < t.n) : b.rows.getD i 0 ∈ b.rows := by
  have h : i < b.rows.length := by rw [T.rl]; exact hi
  rw [List.getD_eq_getElem?_getD, List.getElem?_eq_getElem h]
  exact List.getElem_mem h
theorem TR.c0 (T : TR w b t) : w.cell? ⟨b.g, 0, none⟩ = some (.slice (some ⟨b.sb, 0, none⟩) t.n b.sc) := T.G.cell 0
theorem TR.c1 (T : TR w b t) : w.cell? ⟨b.g, 1, none⟩ = some (.slice (some ⟨b.gb, 0, none⟩) 16 b.gc) := T.G.cell 1
theorem TR.c2 (T : TR w b t) : w.cell? ⟨b.g, 2, none⟩ = some b.wv := T.G.cell 2
theorem TR.cs (T : TR w b t) {m : Nat} (hm : m < t.n) : w.cell? ⟨b.sb, m, none⟩ = some (.slice (some ⟨b.rows.getD m 0, 0, none⟩) 16 (b.caps m)) := by
  obtain ⟨sp, _, _, B⟩ := T.S
  rw [B.cell, List.getElem?_toArray, List.getElem?_append_left (by simpa [TB.rvs] using hm)]
  simp [TB.rvs, hm, rowv]
theorem TR.cr (T : TR w b t) {m i : Nat} (hm : m < t.n) (hi : i < 16) : w.cell? ⟨b.rows.getD m 0, i, none⟩ = some (.int .i64 (t.sl.getD (m * 16 + i) 0)) := by
  obtain ⟨h1, h2⟩ := mrow_get T.ok hm hi
  obtain ⟨sp, B⟩ := T.R m hm
  rw [B.cell, ← h2]
  exact zcells_get (by omega)
theorem TR.cg (T : TR w b t) {i : Nat} (hi : i < 16) : w.cell? ⟨b.gb, i, none⟩ = some (.int .i64 (t.gl.getD i 0)) := by
  obtain ⟨sp, B⟩ := T.GL
  rw [B.cell]; exact zcells_get (by rw [T.ok.gl]; exact hi)
theorem TR.lt (T : TR w b t) : ∀ x ∈ b.all, x < w.heap.size := by
  obtain ⟨sp, _, _, B⟩ := T.S
  intro x hx
  simp only [TB.all, List.mem_cons, List.mem_append, Option.mem_toList] at hx
  rcases hx with rfl | rfl | rfl | hx | hx
  · exact T.G.lt
  · exact B.lt
  · obtain ⟨sp, B⟩ := T.GL; exact B.lt
  · exact own_lt T.Q _ hx
  · obtain ⟨i, hi, rfl⟩ := List.mem_iff_getElem.1 hx
    obtain ⟨sp, B⟩ := T.R i (by rw [← T.rl]; exact hi)
    have := B.lt
    rwa [List.getD_eq_getElem?_getD, List.getElem?_eq_getElem hi] at this
theorem TR.kp {S : List Nat} (T : TR w b t) (k : Kp S w w') (hS : ∀ x ∈ b.all, x ∉ S) : TR w' b t := by
  obtain ⟨sp, h1, h2, B⟩ := T.S
  exact ⟨T.ok, T.nd, T.rl, T.G.kp k (hS _ (by simp [TB.all])), ⟨sp, h1, h2, B.kp k (hS _ (by simp [TB.all]))⟩, fun i hi => (T.R i hi).imp fun sp B => B.kp k (hS _ (by simp only [TB.all, List.mem_cons, List.mem_append]; exact .inr (.inr (.inr (.inr (T.mem_row hi)))))), T.GL.imp fun sp B => B.kp k (hS _ (by simp [TB.all])), own_kps T.Q k (fun g hg => hS g (by simp [TB.all, hg]))⟩
theorem TR.kp0 (T : TR w b t) (k : Kp [] w w') : TR w' b t := T.kp k (by simp)
theorem TR.q_form (T : TR w b t) : (b.wv = .slice none 0 0 ∧ t.qu = []) ∨ ∃ g cap, b.wv = .slice (some ⟨g, 0, none⟩) t.qu.length cap ∧ t.qu.length ≤ cap ∧ cap ≤ maxLen ∧ ∀ i, i < t.qu.length → w.cell? ⟨g, i, none⟩ = some (.int .i64 (t.qu.getD i 0)) := by
  have Q := T.Q
  rcases Q.2 with ⟨hv, h0⟩ | ⟨g, cap, cur, hv, hg, hb, hc1, hc2, hc3, hc4⟩
  · exact .inl ⟨hv, List.length_eq_zero_iff.1 h0⟩
  · refine .inr ⟨g, cap, hv, hc1, hc2, fun i hi => ?_⟩
    rw [hv] at Q
    rw [Q.cellAt i (by omega)]
    have := zcells_get (ws := t.qu) (sp := []) hi
    simpa using this
theorem t_made (T : TR w b t) :
    Calls Try.prog 26 #[.pointer (some ⟨b.g, 0, none⟩)] w fun e w' => e = .returned (.bool true) ∧ ∃ m, w' = w.drewN m := by
  have hc := T.c0
  have hp := T.ok.n1
  have hp2 := T.ok.n4
  have hp3 : 0 < t.n := by omega
  clear T
  go_enter Try.func26, Try.ntmps26
  go_wp2
  go_ret
  exact ⟨rfl, 0, rfl⟩
set_option maxHeartbeats 2000000 in
set_option maxRecDepth 100000 in
theorem t_has (T : TR w b t) (k m i : Int) :
    Calls Try.prog 45 #[.pointer (some ⟨b.g, 0, none⟩), .agg #[.int .i64 k, .int .i64 m, .int .i64 i]] w fun e w' => e = .returned (.bool (t.has k m i)) ∧ Kp [] w w' := by
  have K0 := Kp.new w (.cells #[.int .i64 k, .int .i64 m, .int .i64 i] 33)
  have hc := (T.kp0 K0).c0
  have hcq := (T.kp0 K0).c2
  obtain ⟨A, cap, hq⟩ : ∃ A cap, b.wv = .slice A t.qu.length cap := by
    rcases T.q_form with ⟨hv, h0⟩ | ⟨g, cap, hv, _⟩
    · exact ⟨none, 0, by rw [hv, h0]; rfl⟩
    · exact ⟨_, _, hv⟩
  rw [hq] at hcq
  have h4 := T.ok.n4
  have h5 := T.ok.qu
  have hb := Blk.new w 33 #[.int .i64 k, .int .i64 m, .int .i64 i]
  have b0 := hb.cell 0
  have b1 := hb.cell 1
  have b2 := hb.cell 2
  have HK := hid K0
  clear T K0 hb hq
  by_cases k0 : k = 0
  · subst k0
    by_cases h1 : 0 ≤ m
    · have d1 : decide ((0 : Int) ≤ m) = true := decide_eq_true h1
      by_cases h2 : m < (t.n : Int)
      · have d2 : decide (m < (t.n : Int)) = true := decide_eq_true h2
        by_cases h3 : 0 ≤ i
        · have d3 : decide ((0 : Int) ≤ i) = true := decide_eq_true h3
          by_cases h4' : i < 16
          · have d4 : decide (i < (16 : Int)) = true := decide_eq_true h4'
            rw [show t.has 0 m i = true from decide_eq_true (.inl ⟨rfl, h1, h2, h3, h4'⟩)]
            go_enter Try.func45, Try.ntmps45
            go_wp2
            repeat (go_quiet (fail); go_wp2)
            go_ret
            exact ⟨rfl, by first | exact HK.out | exact HK.out.drewN _⟩
          · have d4 : decide (i < (16 : Int)) = false := decide_eq_false h4'
            rw [show t.has 0 m i = false from decide_eq_false (by omega)]
            go_enter Try.func45, Try.ntmps45
            go_wp2
            repeat (go_quiet (fail); go_wp2)
            go_ret
            exact ⟨rfl, by first | exact HK.out | exact HK.out.drewN _⟩
        · have d3 : decide ((0 : Int) ≤ i) = false := decide_eq_false h3
          rw [show t.has 0 m i = false from decide_eq_false (by omega)]
          go_enter Try.func45, Try.ntmps45
          go_wp2
          repeat (go_quiet (fail); go_wp2)
          go_ret
          exact ⟨rfl, by first | exact HK.out | exact HK.out.drewN _⟩
      · have d2 : decide (m < (t.n : Int)) = false := decide_eq_false h2
        rw [show t.has 0 m i = false from decide_eq_false (by omega)]
        go_enter Try.func45, Try.ntmps45
        go_wp2
        repeat (go_quiet (fail); go_wp2)
        go_ret
        exact ⟨rfl, by first | exact HK.out | exact HK.out.drewN _⟩
    · have d1 : decide ((0 : Int) ≤ m) = false := decide_eq_false h1
      rw [show t.has 0 m i = false from decide_eq_false (by omega)]
      go_enter Try.func45, Try.ntmps45
      go_wp2
      repeat (go_quiet (fail); go_wp2)
      go_ret
      exact ⟨rfl, by first | exact HK.out | exact HK.out.drewN _⟩
  · have z0 : (k == 0) = false := beq_eq_false_iff_ne.2 k0
    by_cases k1 : k = 1
    · subst k1
      by_cases h1 : m = 0
      · subst h1
        by_cases h3 : 0 ≤ i
        · have d3 : decide ((0 : Int) ≤ i) = true := decide_eq_true h3
          by_cases h4' : i < 16
          · have d4 : decide (i < (16 : Int)) = true := decide_eq_true h4'
            rw [show t.has 1 0 i = true from decide_eq_true (.inr (.inl ⟨rfl, rfl, h3, h4'⟩))]
            go_enter Try.func45, Try.ntmps45
            go_wp2
            repeat (go_quiet (fail); go_wp2)
            go_ret
            exact ⟨rfl, by first | exact HK.out | exact HK.out.drewN _⟩
          · have d4 : decide (i < (16 : Int)) = false := decide_eq_false h4'
            rw [show t.has 1 0 i = false from decide_eq_false (by omega)]
            go_enter Try.func45, Try.ntmps45
            go_wp2
            repeat (go_quiet (fail); go_wp2)
            go_ret
            exact ⟨rfl, by first | exact HK.out | exact HK.out.drewN _⟩
        · have d3 : decide ((0 : Int) ≤ i) = false := decide_eq_false h3
          rw [show t.has 1 0 i = false from decide_eq_false (by omega)]
          go_enter Try.func45, Try.ntmps45
          go_wp2
          repeat (go_quiet (fail); go_wp2)
          go_ret
          exact ⟨rfl, by first | exact HK.out | exact HK.out.drewN _⟩
      · have d1 : (m == 0) = false := beq_eq_false_iff_ne.2 h1
        rw [show t.has 1 m i = false from decide_eq_false (by omega)]
        go_enter Try.func45, Try.ntmps45
        go_wp2
        repeat (go_quiet (fail); go_wp2)
        go_ret
        exact ⟨rfl, by first | exact HK.out | exact HK.out.drewN _⟩
    · have z1 : (k == 1) = false := beq_eq_false_iff_ne.2 k1
      by_cases k2 : k = 2
      · subst k2
        by_cases h1 : m = 0
        · subst h1
          by_cases h3 : 0 ≤ i
          · have d3 : decide ((0 : Int) ≤ i) = true := decide_eq_true h3
            by_cases h4' : i < (t.qu.length : Int)
            · have d4 : decide (i < (t.qu.length : Int)) = true := decide_eq_true h4'
              rw [show t.has 2 0 i = true from decide_eq_true (.inr (.inr ⟨rfl, rfl, h3, h4'⟩))]
              go_enter Try.func45, Try.ntmps45
              go_wp2
              repeat (go_quiet (fail); go_wp2)
              go_ret
              exact ⟨rfl, by first | exact HK.out | exact HK.out.drewN _⟩
            · have d4 : decide (i < (t.qu.length : Int)) = false := decide_eq_false h4'
              rw [show t.has 2 0 i = false from decide_eq_false (by omega)]
              go_enter Try.func45, Try.ntmps45
              go_wp2
              repeat (go_quiet (fail); go_wp2)
              go_ret
              exact ⟨rfl, by first | exact HK.out | exact HK.out.drewN _⟩
          · have d3 : decide ((0 : Int) ≤ i) = false := decide_eq_false h3
            rw [show t.has 2 0 i = false from decide_eq_false (by omega)]
            go_enter Try.func45, Try.ntmps45
            go_wp2
            repeat (go_quiet (fail); go_wp2)
            go_ret
            exact ⟨rfl, by first | exact HK.out | exact HK.out.drewN _⟩
        · have d1 : (m == 0) = false := beq_eq_false_iff_ne.2 h1
          rw [show t.has 2 m i = false from decide_eq_false (by omega)]
          go_enter Try.func45, Try.ntmps45
          go_wp2
          repeat (go_quiet (fail); go_wp2)
          go_ret
          exact ⟨rfl, by first | exact HK.out | exact HK.out.drewN _⟩
      · have z2 : (k == 2) = false := beq_eq_false_iff_ne.2 k2
        rw [show t.has k m i = false from decide_eq_false (by omega)]
        go_enter Try.func45, Try.ntmps45
        go_wp2
        repeat (go_quiet (fail); go_wp2)
        go_ret
        exact ⟨rfl, by first | exact HK.out | exact HK.out.drewN _⟩
set_option maxHeartbeats 2000000 in
set_option maxRecDepth 100000 in
theorem t_get (T : TR w b t) (k m i : Int) (h : t.has k m i = true) :
    Calls Try.prog 47 #[.pointer (some ⟨b.g, 0, none⟩), .agg #[.int .i64 k, .int .i64 m, .int .i64 i]] w fun e w' => e = .returned (.int .i64 (t.get k m i)) ∧ Kp [] w w' := by
  have K0 := Kp.new w (.cells #[.int .i64 k, .int .i64 m, .int .i64 i] 33)
  have T1 := T.kp0 K0
  have hc := T1.c0
  have hcg := T1.c1
  have hcq := T1.c2
  have h4 := T.ok.n4
  have h5 := T.ok.qu
  have hb := Blk.new w 33 #[.int .i64 k, .int .i64 m, .int .i64 i]
  have b0 := hb.cell 0
  have b1 := hb.cell 1
  have b2 := hb.cell 2
  have HK := hid K0
  rcases of_decide_eq_true h with ⟨rfl, h1, h2, h3, h4'⟩ | ⟨rfl, rfl, h3, h4'⟩ | ⟨rfl, rfl, h3, h4'⟩
  · obtain ⟨m, rfl⟩ : ∃ x : Nat, m = (x : Int) := ⟨m.toNat, by omega⟩
    obtain ⟨i, rfl⟩ : ∃ x : Nat, i = (x : Int) := ⟨i.toNat, by omega⟩
    have hcs := T1.cs (m := m) (by omega)
    have hcr := T1.cr (m := m) (i := i) (by omega) (by omega)
    rw [show t.get 0 (m : Int) (i : Int) = t.sl.getD (m * 16 + i) 0 by simp [RT.get]]
    generalize t.sl.getD (m * 16 + i) 0 = x at hcr ⊢
    generalize b.rows.getD m 0 = y at hcs hcr
    have hm : m < t.n := by omega
    have hi : i < 16 := by omega
    clear T K0 hb T1 h
    go_enter Try.func47, Try.ntmps47
    go_wp2
    repeat (go_quiet (fail); go_wp2)
    go_ret
    exact ⟨rfl, by first | exact HK.out | exact HK.out.drewN _⟩
  · obtain ⟨i, rfl⟩ : ∃ x : Nat, i = (x : Int) := ⟨i.toNat, by omega⟩
    have hcr := T1.cg (i := i) (by omega)
    rw [show t.get 1 0 (i : Int) = t.gl.getD i 0 by simp [RT.get]]
    generalize t.gl.getD i 0 = x at hcr ⊢
    have hi : i < 16 := by omega
    clear T K0 hb T1 h
    go_enter Try.func47, Try.ntmps47
    go_wp2
    repeat (go_quiet (fail); go_wp2)
    go_ret
    exact ⟨rfl, by first | exact HK.out | exact HK.out.drewN _⟩
  · obtain ⟨i, rfl⟩ : ∃ x : Nat, i = (x : Int) := ⟨i.toNat, by omega⟩
    rcases T1.q_form with ⟨hv, h0⟩ | ⟨g, c, hv, hl1, hl2, hcl⟩
    · rw [h0] at h4'; simp at h4'; omega
    · have hcr := hcl i (by omega)
      rw [hv] at hcq
      rw [show t.get 2 0 (i : Int) = t.qu.getD i 0 by simp [RT.get]]
      generalize t.qu.getD i 0 = x at hcr ⊢
      have hi : i < t.qu.length := by omega
      unfold maxLen at hl2
      clear T K0 hb T1 h hcl hv
      go_enter Try.func47, Try.ntmps47
      go_wp2
      repeat (go_quiet (fail); go_wp2)
      go_ret
      exact ⟨rfl, by first | exact HK.out | exact HK.out.drewN _⟩
end
end Go.Proofs.Ytnidadhoojbmeaa
