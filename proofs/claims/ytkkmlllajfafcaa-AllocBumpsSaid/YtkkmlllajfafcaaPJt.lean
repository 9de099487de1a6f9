/-
  The contracts of package alloc's policies, made, choose. Conditions: those that stand in each theorem.
-/
import Derived.Test.YtkkmlllajfafcaaPJs
namespace Go.Proofs.Ytkkmlllajfafcaa
set_option linter.unusedVariables false
set_option linter.unusedSimpArgs false
open Go.RowKit Go.Deep Go.Maps

abbrev polCells : Array Value := #[.iface 84 (.agg #[]), .iface 85 (.agg #[]), .iface 86 (.agg #[]), .iface 87 (.agg #[]), .iface 88 (.agg #[])]
abbrev alCells (b : HB) (A : AS) : Array Value := #[.pointer (some ⟨b.g, 0, none⟩), .int .i64 (A.sp : Int), .int .i64 (A.po : Int), .int .i64 (A.c : Int), .int .i64 (A.l : Int), .int .i64 (A.oc : Int), .int .i64 (A.ol : Int)]
/-- An allocator in memory. -/
def AL (W : World) (g : Nat) (b : HB) (A : AS) : Prop := Blk W g 33 (alCells b A)
section
variable {w W V : World} {b : HB} {m : HM} {q g : Nat} {A : AS}
theorem AL.kp (h : AL w g b A) {S : List Nat} (k : Kp S w W) (hg : g ∉ S) : AL W g b A := Blk.kp h k hg
theorem AL.po_ (h : AL w g b A) {p : Nat} (hp : A.po = p) : w.cell? ⟨g, 2, none⟩ = some (.int .i64 (p : Int)) := by rw [← hp]; exact h.cell 2
theorem a_policies (w : World) :
    Calls Try.prog 22 #[] w fun e w' => e = .returned (.slice (some ⟨w.heap.size, 0, none⟩) 5 5) ∧ w' = w.alloc (.cells polCells 79) := by
  go_enter Try.func22, Try.ntmps22
  go_wp2
  go_ret
  exact ⟨rfl, rfl⟩
theorem a_made (h : AL w g b A) :
    Calls Try.prog 16 #[.pointer (some ⟨g, 0, none⟩)] w fun e w' => e = .returned (.bool true) ∧ ∃ n, w' = w.drewN n := by
  have c0 := h.cell 0
  clear h
  go_enter Try.func16, Try.ntmps16
  go_wp2
  go_ret
  exact ⟨rfl, 0, rfl⟩
theorem made_k (h : AL w g b A) :
    Calls Try.prog 16 #[.pointer (some ⟨g, 0, none⟩)] w fun e w' => e = .returned (.bool true) ∧ Kp [] w w' := by
  refine (a_made h).mono ?_
  rintro e w' ⟨rfl, n, rfl⟩
  exact ⟨rfl, Kp.draw _ _⟩
theorem four_kp (W : World) (g : Nat) (x y z u : Value) : Kp [g] W ((((W.setCell ⟨g, 0, none⟩ x).setCell ⟨g, 1, none⟩ y).setCell ⟨g, 2, none⟩ z).setCell ⟨g, 3, none⟩ u) :=
  (((Kp.cell W ⟨g, 0, none⟩ x).trans (Kp.cell _ ⟨g, 1, none⟩ y) (U := [g]) (by simp) (by simp)).trans (Kp.cell _ ⟨g, 2, none⟩ z) (U := [g]) (by simp) (by simp)).trans (Kp.cell _ ⟨g, 3, none⟩ u) (U := [g]) (by simp) (by simp)
/-- A heap, an allocator, and the box of a result. -/
structure CA (w W : World) (b : HB) (q : Nat) (m : HM) (g : Nat) (A : AS) (g5 : Nat) : Prop where
  sh : SH W b q m
  al : AL W g b A
  b5 : Blk W g5 31 #[.int .i64 0, .int .i64 0, .int .i64 0, .int .i64 0]
  kp : Kp [] w W
theorem CA.step {g5 : Nat} (u : CA w W b q m g A g5) (K : Kp [] W V) : CA w V b q m g A g5 := ⟨u.sh.k0 K, u.al.kp K (by simp), u.b5.kp K (by simp), u.kp.chain K⟩
set_option maxRecDepth 100000 in
set_option maxHeartbeats 2000000 in
theorem choose_large (h : SH w b q m) (ha : AL w g b A) (hA : A.Ok) (n : Nat) (hn : n ≤ 1000) (h32 : 32 < n) :
    Calls Try.prog 18 #[.pointer (some ⟨g, 0, none⟩), .int .i64 (n : Int)] w fun e w' => e = .returned (.tuple #[.int .i64 ((m.freeB ((n + 63) / 64) : Nat) : Int), .agg #[.int .i64 ((A.c : Nat) : Int), .int .i64 ((A.l : Nat) : Int), .int .i64 ((A.oc : Nat) : Int), .int .i64 ((A.ol : Nat) : Int)]]) ∧ Kp [] w w' := by
  have t : decide ((32 : Int) < (n : Int)) = true := decide_eq_true (by omega)
  have hc1 : 1 ≤ (n + 63) / 64 := by omega
  have hc2 : (n + 63) / 64 ≤ 1000 := by omega
  obtain ⟨fb, hfb⟩ : ∃ z, m.freeB ((n + 63) / 64) = z := ⟨_, rfl⟩
  rw [hfb]
  have HFB := hid hfb
  clear hfb h32
  have hgl : g < w.heap.size := Blk.lt ha
  obtain ⟨w0, hw0⟩ : ∃ w0, w0 = w.alloc (.cells #[.int .i64 0, .int .i64 0, .int .i64 0, .int .i64 0] 31) := ⟨_, rfl⟩
  have K0 : Kp [] w w0 := by rw [hw0]; exact Kp.new _ _
  have B5 : Blk w0 w.heap.size 31 #[.int .i64 0, .int .i64 0, .int .i64 0, .int .i64 0] := by rw [hw0]; exact Blk.new _ _ _
  obtain ⟨g5, hg5⟩ : ∃ z, z = w.heap.size := ⟨_, rfl⟩
  rw [← hg5] at B5
  have HU : Hid (CA w w0.drew b q m g A g5) := CA.step ⟨h.k0 K0, ha.kp K0 (by simp), B5, K0⟩ (Kp.draw _ 1)
  have k00 : w0.drew.cell? ⟨g, 0, none⟩ = some (.pointer (some ⟨b.g, 0, none⟩)) := HU.out.al.cell 0
  have k01 : w0.drew.cell? ⟨g, 1, none⟩ = some (.int .i64 (A.sp : Int)) := HU.out.al.cell 1
  have k02 : w0.drew.cell? ⟨g, 2, none⟩ = some (.int .i64 (A.po : Int)) := HU.out.al.cell 2
  have k03 : w0.drew.cell? ⟨g, 3, none⟩ = some (.int .i64 (A.c : Int)) := HU.out.al.cell 3
  have k04 : w0.drew.cell? ⟨g, 4, none⟩ = some (.int .i64 (A.l : Int)) := HU.out.al.cell 4
  have k05 : w0.drew.cell? ⟨g, 5, none⟩ = some (.int .i64 (A.oc : Int)) := HU.out.al.cell 5
  have k06 : w0.drew.cell? ⟨g, 6, none⟩ = some (.int .i64 (A.ol : Int)) := HU.out.al.cell 6
  have HW := hid hw0
  have H5 := hid hg5
  have HLE : Hid (w.heap.size ≤ g5) := by show _ ≤ _; omega
  have hn5 : g5 ≠ g := by omega
  have hn6 : g ≠ g5 := by omega
  clear h K0 B5 hg5 ha
  go_enter Try.func18, Try.ntmps18
  go_wp2
  rw [← HW.out, ← H5.out]
  clear H5 hw0
  go_region_held3 (fun W => W.cell? ⟨g, 0, none⟩ = some (.pointer (some ⟨b.g, 0, none⟩)) ∧ W.cell? ⟨g, 1, none⟩ = some (.int .i64 (A.sp : Int)) ∧ W.cell? ⟨g, 2, none⟩ = some (.int .i64 (A.po : Int)) ∧ W.cell? ⟨g, 3, none⟩ = some (.int .i64 (A.c : Int)) ∧ W.cell? ⟨g, 4, none⟩ = some (.int .i64 (A.l : Int)) ∧ W.cell? ⟨g, 5, none⟩ = some (.int .i64 (A.oc : Int)) ∧ W.cell? ⟨g, 6, none⟩ = some (.int .i64 (A.ol : Int))) (go_keep)
    (first
      | (go_at_call 35; refine (bf_k n _ (by omega)).mono ?_; rintro e w5 ⟨rfl, K5⟩; have U1 := HU.out.step K5; have k10 := U1.al.cell 0; have k11 := U1.al.cell 1; have k12 := U1.al.cell 2; have k13 := U1.al.cell 3; have k14 := U1.al.cell 4; have k15 := U1.al.cell 5; have k16 := U1.al.cell 6; clear K5)
      | (go_at_call 34; refine (a_free U1.sh A.sp ((n + 63) / 64) hc1 hc2).mono ?_; rintro e w6 ⟨rfl, K6⟩; rw [HFB.out]; have U2 := U1.step K6; have k20 := U2.al.cell 0; have k21 := U2.al.cell 1; have k22 := U2.al.cell 2; have k23 := U2.al.cell 3; have k24 := U2.al.cell 4; have k25 := U2.al.cell 5; have k26 := U2.al.cell 6; have y20 := U2.b5.cell 0; have z20 := U2.b5.frozen 0; have y21 := U2.b5.cell 1; have z21 := U2.b5.frozen 1; have y22 := U2.b5.cell 2; have z22 := U2.b5.frozen 2; have y23 := U2.b5.cell 3; have z23 := U2.b5.frozen 3; clear K6))
  all_goals (
    go_wp2
    obtain ⟨q0, q1, q2, q3, K9⟩ := four_set U2.b5 HLE.out U2.kp (.int .i64 (A.c : Int)) (.int .i64 (A.l : Int)) (.int .i64 (A.oc : Int)) (.int .i64 (A.ol : Int))
    generalize ((((w6.setCell ⟨g5, 0, none⟩ (.int .i64 (A.c : Int))).setCell ⟨g5, 1, none⟩ (.int .i64 (A.l : Int))).setCell ⟨g5, 2, none⟩ (.int .i64 (A.oc : Int))).setCell ⟨g5, 3, none⟩ (.int .i64 (A.ol : Int))) = W9 at q0 q1 q2 q3 K9 ⊢
    refine bodyPost_ret (v := .tuple #[.int .i64 (fb : Int), .agg #[.int .i64 (A.c : Int), .int .i64 (A.l : Int), .int .i64 (A.oc : Int), .int .i64 (A.ol : Int)]]) ?_ rfl ⟨rfl, K9⟩
    simp [results, Try.results18, q0, q1, q2, q3, go_sem])
set_option maxRecDepth 100000 in
set_option maxHeartbeats 2000000 in
theorem choose_first (h : SH w b q m) (ha : AL w g b A) (hA : A.Ok) (n : Nat) (hn : n ≤ 1000) (h32 : ¬ 32 < n) (hpo : A.po = 0)  :
    Calls Try.prog 18 #[.pointer (some ⟨g, 0, none⟩), .int .i64 (n : Int)] w fun e w' => e = .returned (.tuple #[.int .i64 ((orN (m.lowG A.sp 0 n) (m.freeB 1) : Nat) : Int), .agg #[.int .i64 ((A.c : Nat) : Int), .int .i64 ((A.l : Nat) : Int), .int .i64 ((A.oc : Nat) : Int), .int .i64 ((A.ol : Nat) : Int)]]) ∧ Kp [] w w' := by
  have t : decide ((32 : Int) < (n : Int)) = false := decide_eq_false (by omega)
  have HPO := hid hpo
  have HC := hid (fun (W : World) (hs : SH W b q m) => a_first hs A.sp A.c A.l A.oc A.ol n (by omega))
  generalize orN (m.lowG A.sp 0 n) (m.freeB 1) = z0 at HC ⊢
  clear h32
  have hgl : g < w.heap.size := Blk.lt ha
  obtain ⟨w0, hw0⟩ : ∃ w0, w0 = w.alloc (.cells #[.int .i64 0, .int .i64 0, .int .i64 0, .int .i64 0] 31) := ⟨_, rfl⟩
  have K0 : Kp [] w w0 := by rw [hw0]; exact Kp.new _ _
  have B5 : Blk w0 w.heap.size 31 #[.int .i64 0, .int .i64 0, .int .i64 0, .int .i64 0] := by rw [hw0]; exact Blk.new _ _ _
  obtain ⟨g5, hg5⟩ : ∃ z, z = w.heap.size := ⟨_, rfl⟩
  rw [← hg5] at B5
  have HU : Hid (CA w w0.drew b q m g A g5) := CA.step ⟨h.k0 K0, ha.kp K0 (by simp), B5, K0⟩ (Kp.draw _ 1)
  have k00 : w0.drew.cell? ⟨g, 0, none⟩ = some (.pointer (some ⟨b.g, 0, none⟩)) := HU.out.al.cell 0
  have k01 : w0.drew.cell? ⟨g, 1, none⟩ = some (.int .i64 (A.sp : Int)) := HU.out.al.cell 1
  have k02 : w0.drew.cell? ⟨g, 2, none⟩ = some (.int .i64 (0 : Int)) := HU.out.al.po_ hpo
  have k03 : w0.drew.cell? ⟨g, 3, none⟩ = some (.int .i64 (A.c : Int)) := HU.out.al.cell 3
  have k04 : w0.drew.cell? ⟨g, 4, none⟩ = some (.int .i64 (A.l : Int)) := HU.out.al.cell 4
  have k05 : w0.drew.cell? ⟨g, 5, none⟩ = some (.int .i64 (A.oc : Int)) := HU.out.al.cell 5
  have k06 : w0.drew.cell? ⟨g, 6, none⟩ = some (.int .i64 (A.ol : Int)) := HU.out.al.cell 6
  have HW := hid hw0
  have H5 := hid hg5
  have HLE : Hid (w.heap.size ≤ g5) := by show _ ≤ _; omega
  have hn5 : g5 ≠ g := by omega
  have hn6 : g ≠ g5 := by omega
  clear h K0 B5 hg5 ha hpo
  go_enter Try.func18, Try.ntmps18
  go_wp2
  rw [← HW.out, ← H5.out]
  clear H5 hw0
  refine wp_region_held_drew (S := fun W => AL W g b A) (by kernel_rfl) ?_ (fun hHeld => ?_)
  · exact HU.out.al
  refine wpAnyH_take (i := 1) (v := _) rfl (by kernel_rfl) (by kernel_rfl) (by kernel_rfl) (fun _ _ _ h => h) (Or.inl ⟨by rfl, by (intro wz hSw; go_simp; try with_reducible rfl)⟩) (by assumption) ?_
  refine wpAnyH_take (i := 2) (v := _) rfl (by kernel_rfl) (by kernel_rfl) (by kernel_rfl) (fun _ _ _ h => h) (Or.inl ⟨by rfl, by (intro wz hSw; go_simp; try with_reducible rfl)⟩) (by assumption) ?_
  refine wpAnyH_take (i := 3) (v := _) rfl (by kernel_rfl) (by kernel_rfl) (by kernel_rfl) (fun _ _ _ h => h) (Or.inl ⟨by rfl, by (intro wz hSw; go_simp; try with_reducible rfl)⟩) (by assumption) ?_
  refine wpAnyH_take (i := 4) (v := _) rfl (by kernel_rfl) (by kernel_rfl) (by kernel_rfl) (fun _ _ _ h => h) (Or.inl ⟨by rfl, by (intro wz hSw; have cc2 := AL.po_ hSw HPO.out; go_simp; try with_reducible rfl)⟩) (by assumption) ?_
  refine wpAnyH_take (i := 7) (v := _) rfl (by kernel_rfl) (by kernel_rfl) (by kernel_rfl) (fun _ _ _ h => h) (Or.inl ⟨by rfl, by (intro wz hSw; go_simp; try with_reducible rfl)⟩) (by assumption) ?_
  refine wpAnyH_take (i := 8) (v := _) rfl (by kernel_rfl) (by kernel_rfl) (by kernel_rfl) (fun _ _ _ h => h) (Or.inl ⟨by rfl, by (intro wz hSw; go_simp; try with_reducible rfl)⟩) (by assumption) ?_
  refine wpAnyH_take (i := 9) (v := _) rfl (by kernel_rfl) (by kernel_rfl) (by kernel_rfl) (fun _ _ _ h => h) (Or.inl ⟨by rfl, by (intro wz hSw; go_simp; try with_reducible rfl)⟩) (by assumption) ?_
  refine wpAnyH_take (i := 10) (v := _) rfl (by kernel_rfl) (by kernel_rfl) (by kernel_rfl) (fun _ _ _ h => h) (Or.inl ⟨by rfl, by (intro wz hSw; have cc0 : wz.cell? ⟨g, 0, none⟩ = some (.pointer (some ⟨b.g, 0, none⟩)) := hSw.cell 0; have cc1 : wz.cell? ⟨g, 1, none⟩ = some (.int .i64 (A.sp : Int)) := hSw.cell 1; go_simp; try with_reducible rfl)⟩) (by assumption) ?_
  refine wpAnyH_take (i := 11) (v := _) rfl (by kernel_rfl) (by kernel_rfl) (by kernel_rfl) (fun _ _ _ h => h) (Or.inl ⟨by rfl, by (intro wz hSw; go_simp; try with_reducible rfl)⟩) (by assumption) ?_
  refine wpAnyH_take (i := 12) (v := _) rfl (by kernel_rfl) (by kernel_rfl) (by kernel_rfl) (fun _ _ _ h => h) (Or.inl ⟨by rfl, by (intro wz hSw; go_simp; try with_reducible rfl)⟩) (by assumption) ?_
  refine wpAnyH_take (i := 13) (v := _) rfl (by kernel_rfl) (by kernel_rfl) (by kernel_rfl) (fun _ _ _ h => h) (Or.inl ⟨by rfl, by (intro wz hSw; go_simp; try with_reducible rfl)⟩) (by assumption) ?_
  refine wpAnyH_take (i := 14) (v := _) rfl (by kernel_rfl) (by kernel_rfl) (by kernel_rfl) (fun _ _ _ h => h) (Or.inl ⟨by rfl, by (intro wz hSw; have cc3 : wz.cell? ⟨g, 3, none⟩ = some (.int .i64 (A.c : Int)) := hSw.cell 3; have cc4 : wz.cell? ⟨g, 4, none⟩ = some (.int .i64 (A.l : Int)) := hSw.cell 4; have cc5 : wz.cell? ⟨g, 5, none⟩ = some (.int .i64 (A.oc : Int)) := hSw.cell 5; have cc6 : wz.cell? ⟨g, 6, none⟩ = some (.int .i64 (A.ol : Int)) := hSw.cell 6; go_simp; try with_reducible rfl)⟩) (by assumption) ?_
  refine wpAnyH_take (i := 15) (v := _) rfl (by kernel_rfl) (by kernel_rfl) (by kernel_rfl) (fun _ _ _ h => h) (Or.inl ⟨by rfl, by (intro wz hSw; go_simp; try with_reducible rfl)⟩) (by assumption) ?_
  refine wpAnyH_ready (rs := [0]) (by kernel_rfl) (by simp) ?_
  refine AllReadyH.cons rfl (fun K hK => ?_) AllReadyH.nil
  go_simp
  (refine (a_policies _).mono ?_
   rintro e w5 ⟨rfl, hw5⟩
   have K5 : Kp [] w0.drew w5 := (by rw [hw5]; exact Kp.new _ _)
   have P5 := Blk.new w0.drew 79 polCells
   rw [← hw5] at P5
   have p5 : w5.cell? ⟨w0.heap.size, 0, none⟩ = some (.iface 84 (.agg #[])) := P5.cell 0
   have U1 := HU.out.step K5
   clear K5 hw5 P5)
  try go_wp2_with fail
  refine hK.out _ _ ?_ (fun hHeld => ?_)
  · exact U1.al
  clear hK K
  refine wpAnyH_take (i := 5) (v := _) rfl (by kernel_rfl) (by kernel_rfl) (by kernel_rfl) (fun _ _ _ h => h) (Or.inl ⟨by rfl, by (intro wz hSw; go_simp; try with_reducible rfl)⟩) (by assumption) ?_
  refine wpAnyH_ready (rs := [6]) (by kernel_rfl) (by simp) ?_
  refine AllReadyH.cons rfl (fun K hK => ?_) AllReadyH.nil
  go_simp
  refine hK.out _ _ ?_ (fun hHeld => ?_)
  · exact U1.al
  clear hK K
  refine wpAnyH_take (i := 16) (v := _) rfl (by kernel_rfl) (by kernel_rfl) (by kernel_rfl) (fun _ _ _ h => h) (Or.inl ⟨by rfl, by (intro wz hSw; go_simp; try with_reducible rfl)⟩) (by assumption) ?_
  refine wpAnyH_take (i := 17) (v := _) rfl (by kernel_rfl) (by kernel_rfl) (by kernel_rfl) (fun _ _ _ h => h) (Or.inl ⟨by rfl, by (intro wz hSw; go_simp; try with_reducible rfl)⟩) (by assumption) ?_
  refine wpAnyH_ready (rs := [18]) (by kernel_rfl) (by simp) ?_
  refine AllReadyH.cons rfl (fun K hK => ?_) AllReadyH.nil
  go_simp
  (refine (HC.out _ U1.sh).mono ?_
   rintro e w6 ⟨rfl, K6⟩
   have U2 := U1.step K6
   have y20 := U2.b5.cell 0; have z20 := U2.b5.frozen 0; have y21 := U2.b5.cell 1; have z21 := U2.b5.frozen 1; have y22 := U2.b5.cell 2; have z22 := U2.b5.frozen 2; have y23 := U2.b5.cell 3; have z23 := U2.b5.frozen 3
   clear K6)
  try go_wp2_with fail
  refine hK.out _ _ ?_ (fun hHeld => ?_)
  · exact U2.al
  clear hK K
  refine wpAnyH_take (i := 19) (v := _) rfl (by kernel_rfl) (by kernel_rfl) (by kernel_rfl) (fun _ _ _ h => h) (Or.inl ⟨by rfl, by (intro wz hSw; go_simp; try with_reducible rfl)⟩) (by assumption) ?_
  refine wpAnyH_take (i := 20) (v := _) rfl (by kernel_rfl) (by kernel_rfl) (by kernel_rfl) (fun _ _ _ h => h) (Or.inl ⟨by rfl, by (intro wz hSw; go_simp; try with_reducible rfl)⟩) (by assumption) ?_
  refine wpAnyH_take (i := 21) (v := _) rfl (by kernel_rfl) (by kernel_rfl) (by kernel_rfl) (fun _ _ _ h => h) (Or.inl ⟨by rfl, by (intro wz hSw; go_simp; try with_reducible rfl)⟩) (by assumption) ?_
  refine wpAnyH_ready (rs := [22]) (by kernel_rfl) (by simp) ?_
  refine AllReadyH.cons rfl (fun K hK => ?_) AllReadyH.nil
  go_simp
  refine hK.out _ _ ?_ (fun hHeld => ?_)
  · exact U2.al.kp (four_kp _ _ _ _ _ _) (by simpa using hn6)
  clear hK K
  refine wpAnyH_done (by kernel_rfl) ?_ _
  all_goals (
    go_wp2
    obtain ⟨q0, q1, q2, q3, K9⟩ := four_set U2.b5 HLE.out U2.kp (.int .i64 (A.c : Int)) (.int .i64 (A.l : Int)) (.int .i64 (A.oc : Int)) (.int .i64 (A.ol : Int))
    generalize ((((w6.setCell ⟨g5, 0, none⟩ (.int .i64 (A.c : Int))).setCell ⟨g5, 1, none⟩ (.int .i64 (A.l : Int))).setCell ⟨g5, 2, none⟩ (.int .i64 (A.oc : Int))).setCell ⟨g5, 3, none⟩ (.int .i64 (A.ol : Int))) = W9 at q0 q1 q2 q3 K9 ⊢
    refine bodyPost_ret (v := .tuple #[.int .i64 (z0 : Int), .agg #[.int .i64 (A.c : Int), .int .i64 (A.l : Int), .int .i64 (A.oc : Int), .int .i64 (A.ol : Int)]]) ?_ rfl ⟨rfl, K9⟩
    simp [results, Try.results18, q0, q1, q2, q3, go_sem])
end
end Go.Proofs.Ytkkmlllajfafcaa
