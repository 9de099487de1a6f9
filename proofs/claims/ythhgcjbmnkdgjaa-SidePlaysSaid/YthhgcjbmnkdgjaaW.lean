/-
  The contracts of the law's play and looks over tables that nobody made, of looks and Same over a table and the reference's that read alike. Conditions: those that stand in each theorem.
-/
import Derived.Test.YthhgcjbmnkdgjaaV
import Derived.Test.YthhgcjbmnkdgjaaT
import Derived.Test.YthhgcjbmnkdgjaaQ
import Derived.Test.YthhgcjbmnkdgjaaP
namespace Go.Proofs.Ythhgcjbmnkdgjaa
set_option linter.unusedVariables false
set_option linter.unusedSimpArgs false
open Go.RowKit

/-- The call returned true, and nothing that was there has changed. -/
def TrueP (w : World) (e : Ending) (w' : World) : Prop := e = .returned (.bool true) ∧ Kp [] w w'

section
variable {w W W' : World} {v : Value}
theorem Unmade.kp (h : Unmade w v) {S : List Nat} (k : Kp S w W) (hn : ∀ g, v = .pointer (some ⟨g, 0, none⟩) → g ∉ S) : Unmade W v := by
  rcases h with rfl | ⟨g, rfl, hc⟩
  · exact .inl rfl
  · refine .inr ⟨g, rfl, ?_⟩
    rw [← hc]
    refine World.cell?_of_block (k.block g ?_ (hn g rfl))
    rcases Nat.lt_or_ge g w.heap.size with hlt | hge
    · exact hlt
    · unfold World.cell? at hc
      simp only [Array.getElem?_eq_none hge] at hc
      cases hc
theorem Unmade.drewN (h : Unmade w v) (n : Nat) : Unmade (w.drewN n) v := h
theorem Unmade.drew (h : Unmade w v) : Unmade w.drew v := h

set_option maxRecDepth 100000 in
set_option maxHeartbeats 1000000 in
theorem play_un_set (h : Unmade w v) (a b c : Int) :
    Calls Try.prog 21 #[v, .pointer none, .agg #[.int .i64 0, .int .i64 a, .int .i64 b, .int .i64 c]] w (TrueP w) := by
  have HU := hid (h.kp (Kp.new w (.cells #[.int .i64 0, .int .i64 a, .int .i64 b, .int .i64 c] 33)) (by simp))
  clear h
  go_enter Try.func21, Try.ntmps21
  go_wp2
  go_quiet ((first | (go_at_call 31; exact Calls.quiet_of (set_un (HU.out.drewN _) _ _)) | (go_at_call 49; exact Calls.quiet_of (r_set_nil _ _ _))))
  go_wp2
  go_ret
  exact ⟨rfl, ((Kp.new w _).drewN _)⟩

set_option maxRecDepth 100000 in
set_option maxHeartbeats 1000000 in
theorem play_un_fill (h : Unmade w v) (a b c : Int) :
    Calls Try.prog 21 #[v, .pointer none, .agg #[.int .i64 1, .int .i64 a, .int .i64 b, .int .i64 c]] w (TrueP w) := by
  have HU := hid (h.kp (Kp.new w (.cells #[.int .i64 1, .int .i64 a, .int .i64 b, .int .i64 c] 33)) (by simp))
  clear h
  go_enter Try.func21, Try.ntmps21
  go_wp2
  go_quiet ((first | (go_at_call 32; exact Calls.quiet_of (fill_un (HU.out.drewN _) _ _ _)) | (go_at_call 50; exact Calls.quiet_of (r_fill_nil _ _ _ _))))
  go_wp2
  go_ret
  exact ⟨rfl, ((Kp.new w _).drewN _)⟩

set_option maxRecDepth 100000 in
set_option maxHeartbeats 1000000 in
theorem play_un_swap (h : Unmade w v) (a b c : Int) :
    Calls Try.prog 21 #[v, .pointer none, .agg #[.int .i64 2, .int .i64 a, .int .i64 b, .int .i64 c]] w (TrueP w) := by
  have HU := hid (h.kp (Kp.new w (.cells #[.int .i64 2, .int .i64 a, .int .i64 b, .int .i64 c] 33)) (by simp))
  clear h
  go_enter Try.func21, Try.ntmps21
  go_wp2_with (first | (go_at_call 38; refine (swap_un HU.out _ _ _).mono ?_; rintro e w' ⟨rfl, n1, rfl⟩) | (go_at_call 51; refine (r_swap_nil _ _ _ _).mono ?_; rintro e w' ⟨rfl, n2, rfl⟩))
  go_ret
  exact ⟨rfl, ((Kp.new w _).drewN _)⟩

set_option maxRecDepth 100000 in
set_option maxHeartbeats 1000000 in
theorem play_un_add (h : Unmade w v) (a b c : Int) :
    Calls Try.prog 21 #[v, .pointer none, .agg #[.int .i64 3, .int .i64 a, .int .i64 b, .int .i64 c]] w (TrueP w) := by
  have HU := hid (h.kp (Kp.new w (.cells #[.int .i64 3, .int .i64 a, .int .i64 b, .int .i64 c] 33)) (by simp))
  clear h
  go_enter Try.func21, Try.ntmps21
  go_wp2_with (first | (go_at_call 37; refine (add_un HU.out _ _).mono ?_; rintro e w' ⟨rfl, n1, rfl⟩) | (go_at_call 52; refine (r_add_nil _ _ _).mono ?_; rintro e w' ⟨rfl, n2, rfl⟩))
  go_ret
  exact ⟨rfl, ((Kp.new w _).drewN _)⟩

set_option maxRecDepth 100000 in
set_option maxHeartbeats 1000000 in
theorem play_un_next (h : Unmade w v) (a b c : Int) :
    Calls Try.prog 21 #[v, .pointer none, .agg #[.int .i64 4, .int .i64 a, .int .i64 b, .int .i64 c]] w (TrueP w) := by
  have HU := hid (h.kp (Kp.new w (.cells #[.int .i64 4, .int .i64 a, .int .i64 b, .int .i64 c] 33)) (by simp))
  clear h
  go_enter Try.func21, Try.ntmps21
  go_wp2_with (first | (go_at_call 35; refine (next_un HU.out _ _).mono ?_; rintro e w' ⟨rfl, n1, rfl⟩) | (go_at_call 53; refine (r_next_nil _ _ _).mono ?_; rintro e w' ⟨rfl, n2, rfl⟩))
  go_ret
  exact ⟨rfl, ((Kp.new w _).drewN _)⟩

set_option maxRecDepth 100000 in
set_option maxHeartbeats 1000000 in
theorem play_un_last (h : Unmade w v) (a b c : Int) :
    Calls Try.prog 21 #[v, .pointer none, .agg #[.int .i64 5, .int .i64 a, .int .i64 b, .int .i64 c]] w (TrueP w) := by
  have HU := hid (h.kp (Kp.new w (.cells #[.int .i64 5, .int .i64 a, .int .i64 b, .int .i64 c] 33)) (by simp))
  clear h
  go_enter Try.func21, Try.ntmps21
  go_wp2_with (first | (go_at_call 36; refine (last_un HU.out _ _).mono ?_; rintro e w' ⟨rfl, n1, rfl⟩) | (go_at_call 54; refine (r_last_nil _ _ _).mono ?_; rintro e w' ⟨rfl, n2, rfl⟩))
  go_ret
  exact ⟨rfl, ((Kp.new w _).drewN _)⟩

set_option maxRecDepth 100000 in
set_option maxHeartbeats 1000000 in
theorem play_un_other (h : Unmade w v) (k a b c : Int) (hk : ¬ (0 ≤ k ∧ k ≤ 5)) :
    Calls Try.prog 21 #[v, .pointer none, .agg #[.int .i64 k, .int .i64 a, .int .i64 b, .int .i64 c]] w (TrueP w) := by
  have e0 : (k == 0) = false := beq_eq_false_iff_ne.2 (by omega)
  have e1 : (k == 1) = false := beq_eq_false_iff_ne.2 (by omega)
  have e2 : (k == 2) = false := beq_eq_false_iff_ne.2 (by omega)
  have e3 : (k == 3) = false := beq_eq_false_iff_ne.2 (by omega)
  have e4 : (k == 4) = false := beq_eq_false_iff_ne.2 (by omega)
  have e5 : (k == 5) = false := beq_eq_false_iff_ne.2 (by omega)
  clear h hk
  go_enter Try.func21, Try.ntmps21
  go_wp2
  go_ret
  exact ⟨rfl, Kp.new w _⟩
theorem play_un (h : Unmade w v) (k a b c : Int) :
    Calls Try.prog 21 #[v, .pointer none, .agg #[.int .i64 k, .int .i64 a, .int .i64 b, .int .i64 c]] w (TrueP w) := by
  by_cases hk : 0 ≤ k ∧ k ≤ 5
  · have hk6 : k = 0 ∨ k = 1 ∨ k = 2 ∨ k = 3 ∨ k = 4 ∨ k = 5 := by omega
    rcases hk6 with rfl | rfl | rfl | rfl | rfl | rfl
    · exact play_un_set h a b c
    · exact play_un_fill h a b c
    · exact play_un_swap h a b c
    · exact play_un_add h a b c
    · exact play_un_next h a b c
    · exact play_un_last h a b c
  · exact play_un_other h k a b c hk

theorem runs_none (w : World) : RunsAt w (.slice none 0 0) [] := ⟨none, 0, rfl, fun i hi => absurd hi (by simp)⟩
set_option maxHeartbeats 1000000 in
theorem looks_un (h : Unmade w v) (x : Int) :
    Calls Try.prog 23 #[v, .pointer none, .int .i64 x] w (TrueP w) := by
  go_enter Try.func23, Try.ntmps23
  go_wp2_with (first | (go_at_call 34; refine (count_un (w := w) h _).mono ?_; rintro e w' ⟨rfl, n1, rfl⟩) | (go_at_call 58; refine (r_count_nil _ _).mono ?_; rintro e w' ⟨rfl, n2, rfl⟩) | (go_at_call 33; refine (runs_un (w := w.drewN _) h _).mono ?_; rintro e w' ⟨rfl, n3, rfl⟩) | (go_at_call 59; refine (r_runs_nil _ _).mono ?_; rintro e w' ⟨rfl, n4, rfl⟩) | (go_at_call 40; refine (sameRuns_yes (rs := []) (runs_none _) (runs_none _) (by decide)).mono ?_; rintro e w' ⟨rfl, n5, rfl⟩))
  go_ret
  exact ⟨rfl, (Kp.refl [] w).drewN _⟩

theorem cell_lt {g i : Nat} {u : Value} (h : w.cell? ⟨g, i, none⟩ = some u) : g < w.heap.size := by
  rcases Nat.lt_or_ge g w.heap.size with hlt | hge
  · exact hlt
  · unfold World.cell? at h
    simp only [Array.getElem?_eq_none hge] at h
    cases h
theorem RunsAt.below {rs : List (Nat × Nat)} (h : RunsAt w v rs) (b : Below w.heap.size w W) : RunsAt W v rs := by
  obtain ⟨A, cap, rfl, hA⟩ := h
  refine ⟨A, cap, rfl, fun i hi => ?_⟩
  obtain ⟨g, rfl, h1, h2⟩ := hA i hi
  exact ⟨g, rfl, (b.cell (p := ⟨g, i * 2, none⟩) (cell_lt h1)).trans h1, (b.cell (p := ⟨g, i * 2 + 1, none⟩) (cell_lt h2)).trans h2⟩
theorem RunsAt.drewN {rs : List (Nat × Nat)} (h : RunsAt w v rs) (n : Nat) : RunsAt (w.drewN n) v rs := h

variable {g h g' h' wd : Nat} {L : List Nat}
theorem runs_len (p : Nat → Bool) {n : Nat} (hn : n ≤ 4096) : (runsN p n).length ≤ 4096 := Nat.le_trans (runsN_ok p n).1 hn
set_option maxHeartbeats 1000000 in
theorem looks_any (B : Both w g h g' h' wd L) (x : Int) :
    Calls Try.prog 23 #[.pointer (some ⟨g, 0, none⟩), .pointer (some ⟨g', 0, none⟩), .int .i64 x] w (TrueP w) := by
  have hl := hid (runs_len (isV L x) B.1.le)
  have HT := hid B.1
  have HR := hid B.2
  have hg' := B.2.g_lt
  have hh' := B.2.h_lt
  have hcnt : (((cntN (isV L x) L.length : Nat) : Int) == ((cntN (isV L x) L.length : Nat) : Int)) = true := beq_self_eq_true _
  clear B
  go_enter Try.func23, Try.ntmps23
  go_wp2_with (first | (go_at_call 34; refine (count_any HT.out _).mono ?_; rintro e w' ⟨rfl, n1, rfl⟩) | (go_at_call 58; refine (r_count (HR.out.drewN _) _).mono ?_; rintro e w' ⟨rfl, n2, rfl⟩) | (go_at_call 33; refine (runs_any (w := w.drewN _) HT.out _).mono ?_; rintro e w1 ⟨v1, rfl, own1, bel1⟩; have HA := hid (RunsAt.of_own own1); have HB1 := hid bel1; have HR1 := hid ((HR.out.drewN _).below bel1 hg' hh'); clear own1 bel1) | (go_at_call 59; refine (r_runs HR1.out _).mono ?_; rintro e w2 ⟨v2, rfl, own2, bel2⟩; have HA2 := hid (RunsAt.of_own own2); have HA1 := hid (HA.out.below bel2); have HB2 := hid bel2; clear own2 bel2) | (go_at_call 40; refine (sameRuns_yes HA1.out HA2.out hl.out).mono ?_; rintro e w' ⟨rfl, n5, rfl⟩))
  go_ret
  have b1 := HB1.out
  have b2 := HB2.out
  exact ⟨rfl, (((Kp.draw w _).trans (Kp.of_below b1) (U := []) (by simp) (by simp)).trans (Kp.of_below b2) (by simp) (by simp)).drewN _⟩
end
end Go.Proofs.Ythhgcjbmnkdgjaa
