/-
  The contract of the law's alive: it returns true. No condition.
-/
import Derived.Test.YthhgcjbmnkdgjaaX
namespace Go.Proofs.Ythhgcjbmnkdgjaa
set_option linter.unusedVariables false
set_option linter.unusedSimpArgs false
open Go.RowKit

/-- A slice of runs in blocks from B on. -/
def RunsFar (w : World) (B : Nat) (v : Value) (rs : List (Nat × Nat)) : Prop :=
  ∃ A cap, v = .slice A rs.length cap ∧ ∀ i, i < rs.length → ∃ g, A = some ⟨g, 0, none⟩ ∧ B ≤ g ∧ w.cell? ⟨g, i * 2, none⟩ = some (.int .i64 ((rs.getD i (0, 0)).1 : Int)) ∧ w.cell? ⟨g, i * 2 + 1, none⟩ = some (.int .i64 ((rs.getD i (0, 0)).2 : Int))
theorem RunsFar.at_ {w : World} {B : Nat} {v : Value} {rs : List (Nat × Nat)} (h : RunsFar w B v rs) : RunsAt w v rs := by
  obtain ⟨A, cap, rfl, hA⟩ := h
  exact ⟨A, cap, rfl, fun i hi => by obtain ⟨g, h1, _, h2⟩ := hA i hi; exact ⟨g, h1, h2⟩⟩
theorem RunsFar.of_own {w : World} {B : Nat} {v : Value} {rs : List (Nat × Nat)} (own : w.ownsRow B 62 2 v rs.length (rcells rs)) : RunsFar w B v rs := by
  obtain ⟨A, cap, h1, h2⟩ := RunsAt.of_own own
  refine ⟨A, cap, h1, fun i hi => ?_⟩
  obtain ⟨g, h3, h4⟩ := h2 i hi
  refine ⟨g, h3, ?_, h4⟩
  rcases own.2 with ⟨rfl, h0⟩ | ⟨g', cap', cur, rfl, hg, _⟩
  · omega
  · injection h1 with h1
    rw [h3] at h1
    injection h1 with h1
    injection h1 with h1
    omega
theorem RunsFar.kp {w W : World} {B : Nat} {S : List Nat} {v : Value} {rs : List (Nat × Nat)} (h : RunsFar w B v rs) (k : Kp S w W) (hS : ∀ x ∈ S, x < B) : RunsFar W B v rs := by
  obtain ⟨A, cap, rfl, hA⟩ := h
  refine ⟨A, cap, rfl, fun i hi => ?_⟩
  obtain ⟨g, h1, hB, h2, h3⟩ := hA i hi
  have hn : g ∉ S := fun hm => by have := hS g hm; omega
  have hb := k.block g (cell_lt h2) hn
  exact ⟨g, h1, hB, by rw [World.cell?_of_block hb]; exact h2, by rw [World.cell?_of_block hb]; exact h3⟩

/-- The table of alive. -/
structure Al (w W : World) (L : List Nat) : Prop where
  tab : STab W (w.heap.size + 1) w.heap.size 2 L
  kp : Kp [] w W
section
variable {w W W' : World} {L M : List Nat}
theorem Al.step (a : Al w W L) (T : STab W' (w.heap.size + 1) w.heap.size 2 M) (K : Kp [w.heap.size] W W') : Al w W' M := ⟨T, a.kp.trans K (by simp) (by simp)⟩
theorem Al.drewN (a : Al w W L) (n : Nat) : Al w (W.drewN n) L := ⟨a.tab, a.kp.drewN n⟩
theorem Al.below (a : Al w W L) (b : Below W.heap.size W W') : Al w W' L := ⟨a.tab.below b a.tab.g_lt a.tab.h_lt, a.kp.trans (Kp.of_below b) (by simp) (by simp)⟩
theorem Al.new (a : Al w W L) (o : Obj) : Al w (W.alloc o) L := a.below ((Below.refl _ _).alloc (Nat.le_refl _) o)
theorem one_run (W : World) : RunsAt (W.alloc (.cells #[.int .i64 3, .int .i64 4] 62)) (.slice (some ⟨W.heap.size, 0, none⟩) 1 1) [(3, 4)] := by
  have b := Blk.new W 62 #[.int .i64 3, .int .i64 4]
  refine ⟨_, 1, rfl, fun i hi => ⟨W.heap.size, rfl, ?_⟩⟩
  obtain rfl : i = 0 := by simpa using hi
  exact ⟨b.cell 0, b.cell 1⟩
set_option maxRecDepth 100000 in
set_option maxHeartbeats 2000000 in
theorem alive_ok (w : World) : Calls Try.prog 14 #[] w (TrueP w) := by
  go_enter Try.func14, Try.ntmps14
  go_wp2_with (first
    | (go_at_call 15; refine (al_new w).mono ?_; rintro e w1 ⟨rfl, T1, K1⟩; have A1 := hid (Al.mk T1 K1); clear T1 K1)
    | (go_at_call 31; refine (al_set A1.out.tab).mono ?_; rintro e w2 ⟨rfl, T2, K2⟩; have A2 := hid (A1.out.step T2 K2); clear T2 K2)
    | (go_at_call 32; refine (al_fill A2.out.tab).mono ?_; rintro e w3 ⟨rfl, T3, K3⟩; have A3 := hid (A2.out.step T3 K3); clear T3 K3)
    | (go_at_call 33; refine (al_runs A3.out.tab).mono ?_; rintro e w4 ⟨v4, rfl, own, bel⟩; have A4 := hid (A3.out.below bel); have R4 := hid (RunsFar.of_own own); have S4 := hid A3.out.tab.h_lt; clear own bel)
    | (go_at_call 35; refine (al_next A4.out.tab).mono ?_; rintro e w5 ⟨rfl, n5, rfl⟩)
    | (go_at_call 36; refine (al_last (A4.out.drewN n5).tab).mono ?_; rintro e w5 ⟨rfl, n6, rfl⟩)
    | ((go_at_call 37; with_reducible refine (al_add5 (A4.out.drewN (n5 + n6)).tab).mono ?_); rintro e w7 ⟨rfl, T7, K7⟩; have A7 := hid ((A4.out.drewN _).step T7 K7); have R7 := hid (R4.out.kp ((Kp.draw _ _).trans K7 (U := [w.heap.size]) (by simp) (by simp)) (by simpa using S4.out)); clear T7 K7)
    | ((go_at_call 37; with_reducible refine (al_add1 A7.out.tab).mono ?_); rintro e w8 ⟨rfl, T8, K8⟩; have A8 := hid (A7.out.step T8 K8); have R8 := hid (R7.out.kp K8 (by simpa using S4.out)); clear T8 K8)
    | ((go_at_call 38; with_reducible refine (al_swap1 A8.out.tab).mono ?_); rintro e w9 ⟨rfl, T9, K9⟩; have A9 := hid (A8.out.step T9 K9); have R9 := hid (R8.out.kp K9 (by simpa using S4.out)); clear T9 K9)
    | ((go_at_call 38; with_reducible refine (al_swap2 A9.out.tab).mono ?_); rintro e wa ⟨rfl, Ta, Ka⟩; have A10 := hid (A9.out.step Ta Ka); have R10 := hid (R9.out.kp Ka (by simpa using S4.out)); clear Ta Ka)
    | (go_at_call 40; refine (sameRuns_yes (rs := [(3, 4)]) (R10.out.kp (Kp.new _ _) (by simp)).at_ (one_run _) (by decide)).mono ?_; rintro e w' ⟨rfl, nb, rfl⟩)
    | (go_at_call 34; refine (al_count ((A10.out.new _).drewN _).tab).mono ?_; rintro e w' ⟨rfl, nc, rfl⟩))
  go_ret
  exact ⟨rfl, ((A10.out.new _).drewN _).kp⟩
end
end Go.Proofs.Ythhgcjbmnkdgjaa
