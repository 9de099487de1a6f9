/-
  Roots in memory, and the contracts of package roots' small readers. Conditions: those that stand in each theorem.
-/
import Derived.Test.YtnidadhoojbmeaaU
namespace Go.Proofs.Ytnidadhoojbmeaa
set_option linter.unusedVariables false
set_option linter.unusedSimpArgs false
open Go.RowKit Go.Deep Go.Maps

/-- What roots are: mutators, their slots one behind another, globals, the queue. -/
structure RT where
  n : Nat
  sl : List Int
  gl : List Int
  qu : List Int
structure RT.Ok (t : RT) : Prop where
  n1 : 1 ≤ t.n
  n4 : t.n ≤ 4
  sl : t.sl.length = 16 * t.n
  gl : t.gl.length = 16
  qu : t.qu.length ≤ 64
/-- Where roots lie. -/
structure RB where
  g : Nat
  sb : Nat
  qv : Value
def RB.all (b : RB) : List Nat := b.g :: b.sb :: b.qv.ownBlock.toList
def rcell (b : RB) (t : RT) (c : Nat) : Array Value := (.slice (some ⟨b.sb, 0, none⟩) t.n c :: (zcells t.gl ++ [b.qv])).toArray
structure RR (w : World) (b : RB) (t : RT) : Prop where
  ok : t.Ok
  mem : ∃ (c : Nat) (sp : List Value), t.n ≤ c ∧ c ≤ maxLen ∧ (zcells t.sl ++ sp).length = 16 * c ∧ Blk w b.g 59 (rcell b t c) ∧ Blk w b.sb 57 (zcells t.sl ++ sp).toArray
  Q : w.ownsRow 0 3 1 b.qv t.qu.length (zcells t.qu)
theorem rcell_gl {b : RB} {t : RT} {c i : Nat} (hi : i < t.gl.length) : (rcell b t c)[1 + i]? = some (.int .i64 (t.gl.getD i 0)) := by
  unfold rcell
  rw [List.getElem?_toArray, Nat.add_comm, List.getElem?_cons_succ, List.getElem?_append_left (by rw [zcells_length]; exact hi)]
  have := zcells_get (ws := t.gl) (sp := []) hi
  simpa using this
theorem rcell_q {b : RB} {t : RT} {c : Nat} (h : t.gl.length = 16) : (rcell b t c)[17]? = some b.qv := by
  unfold rcell
  rw [List.getElem?_toArray, show 17 = 16 + 1 from rfl, List.getElem?_cons_succ, List.getElem?_append_right (by rw [zcells_length]; omega), zcells_length, h]
  rfl
section
variable {w w' : World} {b : RB} {t : RT}
theorem RR.c0 (R : RR w b t) : ∃ c, t.n ≤ c ∧ c ≤ maxLen ∧ w.cell? ⟨b.g, 0, none⟩ = some (.slice (some ⟨b.sb, 0, none⟩) t.n c) := by
  obtain ⟨c, sp, h1, h2, h3, G, B⟩ := R.mem
  exact ⟨c, h1, h2, G.cell 0⟩
theorem RR.cg (R : RR w b t) {i : Nat} (hi : i < 16) : w.cell? ⟨b.g, 1 + i, none⟩ = some (.int .i64 (t.gl.getD i 0)) := by
  obtain ⟨c, sp, h1, h2, h3, G, B⟩ := R.mem
  exact (G.cell _).trans (rcell_gl (by rw [R.ok.gl]; exact hi))
theorem RR.cq (R : RR w b t) : w.cell? ⟨b.g, 17, none⟩ = some b.qv := by
  obtain ⟨c, sp, h1, h2, h3, G, B⟩ := R.mem
  exact (G.cell _).trans (rcell_q R.ok.gl)
theorem RR.cs (R : RR w b t) {i : Nat} (hi : i < 16 * t.n) : w.cell? ⟨b.sb, i, none⟩ = some (.int .i64 (t.sl.getD i 0)) := by
  obtain ⟨c, sp, h1, h2, h3, G, B⟩ := R.mem
  exact (B.cell _).trans (zcells_get (by rw [R.ok.sl]; exact hi))
theorem RR.lt (R : RR w b t) : ∀ x ∈ b.all, x < w.heap.size := by
  obtain ⟨c, sp, h1, h2, h3, G, B⟩ := R.mem
  intro x hx
  simp only [RB.all, List.mem_cons, Option.mem_toList] at hx
  rcases hx with rfl | rfl | hx
  · exact G.lt
  · exact B.lt
  · exact own_lt R.Q _ hx
theorem own_kps {S : List Nat} {B : Nat} {e : TypeId} {z n : Nat} {v : Value} {xs : List Value} (h : w.ownsRow B e z v n xs) (k : Kp S w w') (hS : ∀ g, v.ownBlock = some g → g ∉ S) : w'.ownsRow B e z v n xs := by
  obtain ⟨hl, h2 | ⟨g, cap, cur, hv, hg, hb, r⟩⟩ := h
  · exact ⟨hl, .inl h2⟩
  · subst hv
    have hlt : g < w.heap.size := by
      rcases Nat.lt_or_ge g w.heap.size with h1 | h1
      · exact h1
      · rw [Array.getElem?_eq_none h1] at hb; cases hb
    exact ⟨hl, .inr ⟨g, cap, cur, rfl, hg, (k.block g hlt (hS g rfl)).trans hb, r⟩⟩
theorem RR.kp {S : List Nat} (R : RR w b t) (k : Kp S w w') (hS : ∀ x ∈ b.all, x ∉ S) : RR w' b t := by
  obtain ⟨c, sp, h1, h2, h3, G, B⟩ := R.mem
  exact ⟨R.ok, ⟨c, sp, h1, h2, h3, G.kp k (hS _ (by simp [RB.all])), B.kp k (hS _ (by simp [RB.all]))⟩, own_kps R.Q k (fun g hg => hS g (by simp [RB.all, hg]))⟩
theorem RR.kp0 (R : RR w b t) (k : Kp [] w w') : RR w' b t := R.kp k (by simp)
theorem RR.drewN (R : RR w b t) (n : Nat) : RR (w.drewN n) b t := R.kp0 (Kp.draw w n)
theorem RR.q_form (R : RR w b t) : (b.qv = .slice none 0 0 ∧ t.qu = []) ∨ ∃ g cap, b.qv = .slice (some ⟨g, 0, none⟩) t.qu.length cap ∧ t.qu.length ≤ cap ∧ cap ≤ maxLen ∧ g ≠ b.g ∧ g ≠ b.sb ∧ ∀ i, i < t.qu.length → w.cell? ⟨g, i, none⟩ = some (.int .i64 (t.qu.getD i 0)) := by
  obtain ⟨c, sp, h1, h2, h3, G, B⟩ := R.mem
  have Q := R.Q
  rcases Q.2 with ⟨hv, h0⟩ | ⟨g, cap, cur, hv, hg, hb, hc1, hc2, hc3, hc4⟩
  · exact .inl ⟨hv, List.length_eq_zero_iff.1 h0⟩
  · have hB : Blk w g 3 cur := hb
    refine .inr ⟨g, cap, hv, hc1, hc2, hB.ne_ G (by decide), hB.ne_ B (by decide), fun i hi => ?_⟩
    rw [hv] at Q
    rw [Q.cellAt i (by omega)]
    have := zcells_get (ws := t.qu) (sp := []) hi
    simpa using this
theorem r_made (R : RR w b t) :
    Calls Try.prog 23 #[.pointer (some ⟨b.g, 0, none⟩)] w fun e w' => e = .returned (.bool true) ∧ ∃ m, w' = w.drewN m := by
  obtain ⟨c, h1, h2, hc⟩ := R.c0
  have hp := R.ok.n1
  have hp2 := R.ok.n4
  have hp3 : 0 < t.n := by omega
  clear R
  go_enter Try.func23, Try.ntmps23
  go_wp2
  go_ret
  exact ⟨rfl, 0, rfl⟩
theorem r_mutators (R : RR w b t) :
    Calls Try.prog 32 #[.pointer (some ⟨b.g, 0, none⟩)] w fun e w' => e = .returned (.int .i64 (t.n : Int)) ∧ ∃ m, w' = w.drewN m := by
  obtain ⟨c, h1, h2, hc⟩ := R.c0
  go_enter Try.func32, Try.ntmps32
  go_wp2_with (go_at_call 23; refine (r_made R).mono ?_; rintro e w' ⟨rfl, n1, rfl⟩)
  go_ret
  exact ⟨rfl, _, rfl⟩
set_option maxHeartbeats 1000000 in
set_option maxRecDepth 100000 in
theorem row_slot (R : RR w b t) (m : Nat) (i : Int) (hm : m < t.n) :
    Calls Try.prog 48 #[.pointer (some ⟨b.g, 0, none⟩), .agg #[.int .i64 0, .int .i64 (m : Int), .int .i64 i]] w fun e w' => e = .returned (.slice (some ⟨b.sb, m * 16, none⟩) 16 16) ∧ Kp [] w w' := by
  have K0 := Kp.new w (.cells #[.int .i64 0, .int .i64 (m : Int), .int .i64 i] 33)
  obtain ⟨c, h1, h2, hc⟩ := (R.kp0 K0).c0
  have hcq := (R.kp0 K0).cq
  have h4 := R.ok.n4
  unfold maxLen at h2
  have hb := Blk.new w 33 #[.int .i64 0, .int .i64 (m : Int), .int .i64 i]
  have b0 := hb.cell 0
  have b1 := hb.cell 1
  have hm0 : (0 : Int) ≤ (m : Int) := by omega
  have hm1 : (m : Int) < (t.n : Int) := by omega
  have hd : decide (m < t.n) = true := decide_eq_true hm
  have HK := hid K0
  clear R K0 hb
  go_enter Try.func48, Try.ntmps48
  go_wp2
  repeat (go_quiet (fail); go_wp2)
  go_ret
  exact ⟨rfl, by first | exact HK.out | exact HK.out.drewN _ | exact (HK.out.drewN _).drewN _⟩
set_option maxHeartbeats 1000000 in
set_option maxRecDepth 100000 in
theorem row_slot_lo (R : RR w b t) (m i : Int) (hm : m < 0) :
    Calls Try.prog 48 #[.pointer (some ⟨b.g, 0, none⟩), .agg #[.int .i64 0, .int .i64 m, .int .i64 i]] w fun e w' => e = .returned (.slice none 0 0) ∧ Kp [] w w' := by
  have K0 := Kp.new w (.cells #[.int .i64 0, .int .i64 m, .int .i64 i] 33)
  obtain ⟨c, h1, h2, hc⟩ := (R.kp0 K0).c0
  have hcq := (R.kp0 K0).cq
  have h4 := R.ok.n4
  unfold maxLen at h2
  have hb := Blk.new w 33 #[.int .i64 0, .int .i64 m, .int .i64 i]
  have b0 := hb.cell 0
  have b1 := hb.cell 1
  have hd : decide ((0 : Int) ≤ m) = false := decide_eq_false (by omega)
  have HK := hid K0
  clear R K0 hb
  go_enter Try.func48, Try.ntmps48
  go_wp2
  repeat (go_quiet (fail); go_wp2)
  go_ret
  exact ⟨rfl, by first | exact HK.out | exact HK.out.drewN _ | exact (HK.out.drewN _).drewN _⟩
set_option maxHeartbeats 1000000 in
set_option maxRecDepth 100000 in
theorem row_slot_hi (R : RR w b t) (m i : Int) (hm : 0 ≤ m) (hm2 : ¬ m < (t.n : Int)) :
    Calls Try.prog 48 #[.pointer (some ⟨b.g, 0, none⟩), .agg #[.int .i64 0, .int .i64 m, .int .i64 i]] w fun e w' => e = .returned (.slice none 0 0) ∧ Kp [] w w' := by
  have K0 := Kp.new w (.cells #[.int .i64 0, .int .i64 m, .int .i64 i] 33)
  obtain ⟨c, h1, h2, hc⟩ := (R.kp0 K0).c0
  have hcq := (R.kp0 K0).cq
  have h4 := R.ok.n4
  unfold maxLen at h2
  have hb := Blk.new w 33 #[.int .i64 0, .int .i64 m, .int .i64 i]
  have b0 := hb.cell 0
  have b1 := hb.cell 1
  have hd : decide ((0 : Int) ≤ m) = true := decide_eq_true hm
  have hd2 : decide (m < (t.n : Int)) = false := decide_eq_false hm2
  have HK := hid K0
  clear R K0 hb
  go_enter Try.func48, Try.ntmps48
  go_wp2
  repeat (go_quiet (fail); go_wp2)
  go_ret
  exact ⟨rfl, by first | exact HK.out | exact HK.out.drewN _ | exact (HK.out.drewN _).drewN _⟩
set_option maxHeartbeats 1000000 in
set_option maxRecDepth 100000 in
theorem row_glob (R : RR w b t) (i : Int) :
    Calls Try.prog 48 #[.pointer (some ⟨b.g, 0, none⟩), .agg #[.int .i64 1, .int .i64 0, .int .i64 i]] w fun e w' => e = .returned (.slice (some ⟨b.g, 1, none⟩) 16 16) ∧ Kp [] w w' := by
  have K0 := Kp.new w (.cells #[.int .i64 1, .int .i64 0, .int .i64 i] 33)
  obtain ⟨c, h1, h2, hc⟩ := (R.kp0 K0).c0
  have hcq := (R.kp0 K0).cq
  have h4 := R.ok.n4
  unfold maxLen at h2
  have hb := Blk.new w 33 #[.int .i64 1, .int .i64 0, .int .i64 i]
  have b0 := hb.cell 0
  have b1 := hb.cell 1
  have HK := hid K0
  clear R K0 hb
  go_enter Try.func48, Try.ntmps48
  go_wp2
  repeat (go_quiet (fail); go_wp2)
  go_ret
  exact ⟨rfl, by first | exact HK.out | exact HK.out.drewN _ | exact (HK.out.drewN _).drewN _⟩
set_option maxHeartbeats 1000000 in
set_option maxRecDepth 100000 in
theorem row_glob_no (R : RR w b t) (m i : Int) (hm : m ≠ 0) :
    Calls Try.prog 48 #[.pointer (some ⟨b.g, 0, none⟩), .agg #[.int .i64 1, .int .i64 m, .int .i64 i]] w fun e w' => e = .returned (.slice none 0 0) ∧ Kp [] w w' := by
  have K0 := Kp.new w (.cells #[.int .i64 1, .int .i64 m, .int .i64 i] 33)
  obtain ⟨c, h1, h2, hc⟩ := (R.kp0 K0).c0
  have hcq := (R.kp0 K0).cq
  have h4 := R.ok.n4
  unfold maxLen at h2
  have hb := Blk.new w 33 #[.int .i64 1, .int .i64 m, .int .i64 i]
  have b0 := hb.cell 0
  have b1 := hb.cell 1
  have hd : (m == 0) = false := beq_eq_false_iff_ne.2 hm
  have HK := hid K0
  clear R K0 hb
  go_enter Try.func48, Try.ntmps48
  go_wp2
  repeat (go_quiet (fail); go_wp2)
  go_ret
  exact ⟨rfl, by first | exact HK.out | exact HK.out.drewN _ | exact (HK.out.drewN _).drewN _⟩
set_option maxHeartbeats 1000000 in
set_option maxRecDepth 100000 in
theorem row_queue (R : RR w b t) (i : Int) :
    Calls Try.prog 48 #[.pointer (some ⟨b.g, 0, none⟩), .agg #[.int .i64 2, .int .i64 0, .int .i64 i]] w fun e w' => e = .returned (b.qv) ∧ Kp [] w w' := by
  have K0 := Kp.new w (.cells #[.int .i64 2, .int .i64 0, .int .i64 i] 33)
  obtain ⟨c, h1, h2, hc⟩ := (R.kp0 K0).c0
  have hcq := (R.kp0 K0).cq
  have h4 := R.ok.n4
  unfold maxLen at h2
  have hb := Blk.new w 33 #[.int .i64 2, .int .i64 0, .int .i64 i]
  have b0 := hb.cell 0
  have b1 := hb.cell 1
  have HK := hid K0
  clear R K0 hb
  go_enter Try.func48, Try.ntmps48
  go_wp2
  repeat (go_quiet (fail); go_wp2)
  go_ret
  exact ⟨rfl, by first | exact HK.out | exact HK.out.drewN _ | exact (HK.out.drewN _).drewN _⟩
set_option maxHeartbeats 1000000 in
set_option maxRecDepth 100000 in
theorem row_queue_no (R : RR w b t) (m i : Int) (hm : m ≠ 0) :
    Calls Try.prog 48 #[.pointer (some ⟨b.g, 0, none⟩), .agg #[.int .i64 2, .int .i64 m, .int .i64 i]] w fun e w' => e = .returned (.slice none 0 0) ∧ Kp [] w w' := by
  have K0 := Kp.new w (.cells #[.int .i64 2, .int .i64 m, .int .i64 i] 33)
  obtain ⟨c, h1, h2, hc⟩ := (R.kp0 K0).c0
  have hcq := (R.kp0 K0).cq
  have h4 := R.ok.n4
  unfold maxLen at h2
  have hb := Blk.new w 33 #[.int .i64 2, .int .i64 m, .int .i64 i]
  have b0 := hb.cell 0
  have b1 := hb.cell 1
  have hd : (m == 0) = false := beq_eq_false_iff_ne.2 hm
  have HK := hid K0
  clear R K0 hb
  go_enter Try.func48, Try.ntmps48
  go_wp2
  repeat (go_quiet (fail); go_wp2)
  go_ret
  exact ⟨rfl, by first | exact HK.out | exact HK.out.drewN _ | exact (HK.out.drewN _).drewN _⟩
set_option maxHeartbeats 1000000 in
set_option maxRecDepth 100000 in
theorem row_other (R : RR w b t) (k m i : Int) (h0 : k ≠ 0) (h1' : k ≠ 1) (h2' : k ≠ 2) :
    Calls Try.prog 48 #[.pointer (some ⟨b.g, 0, none⟩), .agg #[.int .i64 k, .int .i64 m, .int .i64 i]] w fun e w' => e = .returned (.slice none 0 0) ∧ Kp [] w w' := by
  have K0 := Kp.new w (.cells #[.int .i64 k, .int .i64 m, .int .i64 i] 33)
  obtain ⟨c, h1, h2, hc⟩ := (R.kp0 K0).c0
  have hcq := (R.kp0 K0).cq
  have h4 := R.ok.n4
  unfold maxLen at h2
  have hb := Blk.new w 33 #[.int .i64 k, .int .i64 m, .int .i64 i]
  have b0 := hb.cell 0
  have b1 := hb.cell 1
  have hd0 : (k == 0) = false := beq_eq_false_iff_ne.2 h0
  have hd1 : (k == 1) = false := beq_eq_false_iff_ne.2 h1'
  have hd2 : (k == 2) = false := beq_eq_false_iff_ne.2 h2'
  have HK := hid K0
  clear R K0 hb
  go_enter Try.func48, Try.ntmps48
  go_wp2
  repeat (go_quiet (fail); go_wp2)
  go_ret
  exact ⟨rfl, by first | exact HK.out | exact HK.out.drewN _ | exact (HK.out.drewN _).drewN _⟩
/-- What row returns. -/
def RB.row (b : RB) (t : RT) (k m : Int) : Value :=
  if k = 0 ∧ 0 ≤ m ∧ m < (t.n : Int) then .slice (some ⟨b.sb, m.toNat * 16, none⟩) 16 16 else if k = 1 ∧ m = 0 then .slice (some ⟨b.g, 1, none⟩) 16 16 else if k = 2 ∧ m = 0 then b.qv else .slice none 0 0
theorem r_row (R : RR w b t) (k m i : Int) :
    Calls Try.prog 48 #[.pointer (some ⟨b.g, 0, none⟩), .agg #[.int .i64 k, .int .i64 m, .int .i64 i]] w fun e w' => e = .returned (b.row t k m) ∧ Kp [] w w' := by
  unfold RB.row
  by_cases k0 : k = 0
  · subst k0
    by_cases h1 : 0 ≤ m
    · by_cases h2 : m < (t.n : Int)
      · obtain ⟨m, rfl⟩ : ∃ x : Nat, m = (x : Int) := ⟨m.toNat, by omega⟩
        rw [if_pos ⟨rfl, h1, h2⟩, Int.toNat_natCast]
        exact row_slot R m i (by omega)
      · rw [if_neg (by omega), if_neg (by omega), if_neg (by omega)]
        exact row_slot_hi R m i h1 h2
    · rw [if_neg (by omega), if_neg (by omega), if_neg (by omega)]
      exact row_slot_lo R m i (by omega)
  · rw [if_neg (fun h => k0 h.1)]
    by_cases k1 : k = 1
    · subst k1
      by_cases hm : m = 0
      · subst hm
        rw [if_pos ⟨rfl, rfl⟩]
        exact row_glob R i
      · rw [if_neg (fun h => hm h.2), if_neg (fun h => hm h.2)]
        exact row_glob_no R m i hm
    · rw [if_neg (fun h => k1 h.1)]
      by_cases k2 : k = 2
      · subst k2
        by_cases hm : m = 0
        · subst hm
          rw [if_pos ⟨rfl, rfl⟩]
          exact row_queue R i
        · rw [if_neg (fun h => hm h.2)]
          exact row_queue_no R m i hm
      · rw [if_neg (fun h => k2 h.1)]
        exact row_other R k m i k0 k1 k2
end
end Go.Proofs.Ytnidadhoojbmeaa
