/-
  The contracts of package alloc's New, Reset, Cursor, Space, Policy, Clone. Conditions: those that stand in each theorem.
-/
import Derived.Test.YtkkmlllajfafcaaPXG
namespace Go.Proofs.Ytkkmlllajfafcaa
set_option linter.unusedVariables false
set_option linter.unusedSimpArgs false
open Go.RowKit Go.Deep Go.Maps

def AS.new (s p : Nat) : AS := ⟨s, p, 0, 0, 0, 0⟩
theorem AS.new_ok {s p : Nat} (hs : s < 8) (hp : p < 5) : (AS.new s p).Ok := ⟨hs, hp, Nat.zero_le _, Nat.zero_le _, Nat.zero_le _, Nat.zero_le _⟩
section
variable {w W V : World} {b : HB} {m : HM} {q g : Nat} {A : AS}
theorem a_isHeap (h : SH w b q m) :
    Calls Try.prog 21 #[.pointer (some ⟨b.g, 0, none⟩)] w fun e w' => e = .returned (.bool true) ∧ ∃ n, w' = w.drewN n := by
  have hx : (if inB m.bl.length 0 then (m.st (0 : Int).toNat : Int) else -1) = 0 := by
    have := stV_eq m 0
    simp only [Int.natCast_zero] at this
    rw [this, if_pos (by have := h.inv.len2; omega)]
    have := h.inv.b0
    omega
  have HX := hid hx
  clear hx
  go_enter Try.func21, Try.ntmps21
  go_wp2_with (go_at_call 37; refine (h_state h _).mono ?_; rintro e w' ⟨rfl, n1, rfl⟩; rw [HX.out])
  go_ret
  exact ⟨rfl, _, rfl⟩
theorem isHeap_k (h : SH w b q m) :
    Calls Try.prog 21 #[.pointer (some ⟨b.g, 0, none⟩)] w fun e w' => e = .returned (.bool true) ∧ Kp [] w w' := by
  refine (a_isHeap h).mono ?_
  rintro e w' ⟨rfl, n, rfl⟩
  exact ⟨rfl, Kp.draw _ _⟩
set_option maxHeartbeats 1000000 in
theorem a_new_bad (h : SH w b q m) (s p : Int) (hsp : ¬ (0 ≤ s ∧ s < 8 ∧ 0 ≤ p ∧ p < 5)) :
    Calls Try.prog 8 #[.pointer (some ⟨b.g, 0, none⟩), .int .i64 s, .int .i64 p] w fun e w' => e = .returned (.tuple #[.pointer none, .int .i64 1]) ∧ Kp [] w w' := by
  have HIS := hid (isHeap_k h)
  clear h
  by_cases h1 : s < 0
  · have t1 : decide (s < 0) = true := decide_eq_true h1
    clear hsp
    go_enter Try.func8, Try.ntmps8
    go_wp2_with (go_at_call 21; refine HIS.out.mono ?_; rintro e w1 ⟨rfl, K1⟩; have HK1 := hid K1; clear K1)
    go_ret2
    exact ⟨rfl, HK1.out⟩
  by_cases h2 : 8 ≤ s
  · have t1 : decide (s < 0) = false := decide_eq_false h1
    have t2 : decide (8 ≤ s) = true := decide_eq_true h2
    clear hsp
    go_enter Try.func8, Try.ntmps8
    go_wp2_with (go_at_call 21; refine HIS.out.mono ?_; rintro e w1 ⟨rfl, K1⟩; have HK1 := hid K1; clear K1)
    go_ret2
    exact ⟨rfl, HK1.out⟩
  by_cases h3 : p < 0
  · have t1 : decide (s < 0) = false := decide_eq_false h1
    have t2 : decide (8 ≤ s) = false := decide_eq_false h2
    have t3 : decide (p < 0) = true := decide_eq_true h3
    clear hsp
    go_enter Try.func8, Try.ntmps8
    go_wp2_with (go_at_call 21; refine HIS.out.mono ?_; rintro e w1 ⟨rfl, K1⟩; have HK1 := hid K1; clear K1)
    go_ret2
    exact ⟨rfl, HK1.out⟩
  have h4 : 5 ≤ p := by omega
  have t1 : decide (s < 0) = false := decide_eq_false h1
  have t2 : decide (8 ≤ s) = false := decide_eq_false h2
  have t3 : decide (p < 0) = false := decide_eq_false h3
  have t4 : decide (5 ≤ p) = true := decide_eq_true h4
  clear hsp
  go_enter Try.func8, Try.ntmps8
  go_wp2_with (first
    | (go_at_call 21; refine HIS.out.mono ?_; rintro e w1 ⟨rfl, K1⟩; have HK1 := hid K1; clear K1)
    | (go_at_call 22; refine (a_policies _).mono ?_; rintro e w2 ⟨rfl, rfl⟩))
  go_ret2
  exact ⟨rfl, HK1.out.chain (Kp.new _ _)⟩
set_option maxHeartbeats 1000000 in
theorem a_new (h : SH w b q m) (s p : Nat) (hs : s < 8) (hp : p < 5) :
    Calls Try.prog 8 #[.pointer (some ⟨b.g, 0, none⟩), .int .i64 (s : Int), .int .i64 (p : Int)] w fun e w' => ∃ g, e = .returned (.tuple #[.pointer (some ⟨g, 0, none⟩), .int .i64 0]) ∧ AL w' g b (AS.new s p) ∧ w.heap.size ≤ g ∧ Kp [] w w' := by
  have HIS := hid (isHeap_k h)
  clear h
  have t1 : decide ((s : Int) < 0) = false := decide_eq_false (by omega)
  have t2 : decide (8 ≤ (s : Int)) = false := decide_eq_false (by omega)
  have t3 : decide ((p : Int) < 0) = false := decide_eq_false (by omega)
  have t4 : decide (5 ≤ (p : Int)) = false := decide_eq_false (by omega)
  clear hs hp
  go_enter Try.func8, Try.ntmps8
  go_wp2_with (first
    | (go_at_call 21; refine HIS.out.mono ?_; rintro e w1 ⟨rfl, K1⟩; have HK1 := hid K1; clear K1)
    | (go_at_call 22; refine (a_policies _).mono ?_; rintro e w2 ⟨rfl, hw2⟩; have HK2 := hid (by rw [hw2]; exact HK1.out.chain (Kp.new _ _) : Kp [] w w2); clear hw2))
  go_ret2
  exact ⟨_, rfl, Blk.new w2 33 (alCells b (AS.new s p)), HK2.out.size, HK2.out.chain (Kp.new _ _)⟩
set_option maxHeartbeats 1000000 in
theorem a_cursor (h : AL w g b A) :
    Calls Try.prog 23 #[.pointer (some ⟨g, 0, none⟩)] w fun e w' => e = .returned (.tuple #[.int .i64 (A.c : Int), .int .i64 (A.l : Int), .int .i64 (A.oc : Int), .int .i64 (A.ol : Int)]) ∧ Kp [] w w' := by
  have HA := hid h
  clear h
  go_enter Try.func23, Try.ntmps23
  go_wp2_with (fail)
  refine (made_k HA.out).mono ?_
  rintro e w1 ⟨rfl, K1⟩
  have A1 : AL w1.drew g b A := HA.out.kp (K1.chain (Kp.draw _ 1)) (by simp)
  have c3 : w1.drew.cell? ⟨g, 3, none⟩ = some (.int .i64 (A.c : Int)) := A1.cell 3
  have c4 : w1.drew.cell? ⟨g, 4, none⟩ = some (.int .i64 (A.l : Int)) := A1.cell 4
  have c5 : w1.drew.cell? ⟨g, 5, none⟩ = some (.int .i64 (A.oc : Int)) := A1.cell 5
  have c6 : w1.drew.cell? ⟨g, 6, none⟩ = some (.int .i64 (A.ol : Int)) := A1.cell 6
  have B1 : AL w1 g b A := HA.out.kp K1 (by simp)
  have d3 : w1.cell? ⟨g, 3, none⟩ = some (.int .i64 (A.c : Int)) := B1.cell 3
  have d4 : w1.cell? ⟨g, 4, none⟩ = some (.int .i64 (A.l : Int)) := B1.cell 4
  have d5 : w1.cell? ⟨g, 5, none⟩ = some (.int .i64 (A.oc : Int)) := B1.cell 5
  have d6 : w1.cell? ⟨g, 6, none⟩ = some (.int .i64 (A.ol : Int)) := B1.cell 6
  have n3 := World.new_ne _ _ d3
  have n4 := World.new_ne _ _ c3
  have hgl : g < w1.heap.size := Blk.lt B1
  have n5 : w1.heap.size + 1 ≠ g := by omega
  have HK1 := hid K1
  clear K1 A1 B1
  go_wp2
  go_region_held3 (fun W => W.cell? ⟨g, 3, none⟩ = some (.int .i64 (A.c : Int)) ∧ W.cell? ⟨g, 4, none⟩ = some (.int .i64 (A.l : Int)) ∧ W.cell? ⟨g, 5, none⟩ = some (.int .i64 (A.oc : Int)) ∧ W.cell? ⟨g, 6, none⟩ = some (.int .i64 (A.ol : Int))) (go_keep) (fail)
  all_goals (
    go_wp2
    go_quiet (fail)
    go_wp2
    refine bodyPost_ret (v := .tuple #[.int .i64 (A.c : Int), .int .i64 (A.l : Int), .int .i64 (A.oc : Int), .int .i64 (A.ol : Int)]) ?_ rfl ⟨rfl, ?_⟩
    · simp [results, Try.results23, go_sem]
    · exact (((HK1.out.chain (Kp.new _ _)).chain (Kp.new _ _)).drewN 1).drewN _)
theorem a_space (h : AL w g b A) :
    Calls Try.prog 25 #[.pointer (some ⟨g, 0, none⟩)] w fun e w' => e = .returned (.int .i64 (A.sp : Int)) ∧ Kp [] w w' := by
  have HA := hid h
  clear h
  go_enter Try.func25, Try.ntmps25
  go_wp2_with (go_at_call 16; refine (made_k HA.out).mono ?_; rintro e w1 ⟨rfl, K1⟩; have c1 := (HA.out.kp K1 (by simp)).cell 1; have HK1 := hid K1; clear K1)
  go_ret
  exact ⟨rfl, HK1.out⟩
theorem a_policy (h : AL w g b A) :
    Calls Try.prog 27 #[.pointer (some ⟨g, 0, none⟩)] w fun e w' => e = .returned (.int .i64 (A.po : Int)) ∧ Kp [] w w' := by
  have HA := hid h
  clear h
  go_enter Try.func27, Try.ntmps27
  go_wp2_with (go_at_call 16; refine (made_k HA.out).mono ?_; rintro e w1 ⟨rfl, K1⟩; have c2 := (HA.out.kp K1 (by simp)).cell 2; have HK1 := hid K1; clear K1)
  go_ret
  exact ⟨rfl, HK1.out⟩
def AS.reset (A : AS) : AS := ⟨A.sp, A.po, 0, 0, 0, 0⟩
set_option maxHeartbeats 1000000 in
theorem a_reset (h : AL w g b A) :
    Calls Try.prog 7 #[.pointer (some ⟨g, 0, none⟩)] w fun e w' => e = .returned (.tuple #[]) ∧ AL w' g b A.reset ∧ Kp [g] w w' := by
  have HA := hid h
  clear h
  go_enter Try.func7, Try.ntmps7
  go_wp2_with (go_at_call 16; refine (made_k HA.out).mono ?_; rintro e w1 ⟨rfl, K1⟩; have A1 := HA.out.kp K1 (by simp); have HA1 := hid A1; have c3 := A1.cell 3; have c4 := A1.cell 4; have c5 := A1.cell 5; have c6 := A1.cell 6; have f3 := A1.frozen 3; have f4 := A1.frozen 4; have f5 := A1.frozen 5; have f6 := A1.frozen 6; have HK1 := hid K1; clear K1 A1)
  go_end0
  exact ⟨rfl, HA1.out.cur (A2 := A.reset) rfl rfl, HK1.out.chain0 (cur_kp _ _ _ _ _ _)⟩
set_option maxHeartbeats 1000000 in
theorem a_clone {b2 : HB} {q2 : Nat} {m2 : HM} (h : AL w g b A) (h2 : SH w b2 q2 m2) :
    Calls Try.prog 9 #[.pointer (some ⟨g, 0, none⟩), .pointer (some ⟨b2.g, 0, none⟩)] w fun e w' => ∃ g2, e = .returned (.pointer (some ⟨g2, 0, none⟩)) ∧ AL w' g2 b2 A ∧ w.heap.size ≤ g2 ∧ Kp [] w w' := by
  have HA := hid h
  have H2 := hid h2
  clear h h2
  go_enter Try.func9, Try.ntmps9
  go_wp2_with (first
    | (go_at_call 16; refine (made_k HA.out).mono ?_; rintro e w1 ⟨rfl, K1⟩; have HK1 := hid K1; clear K1)
    | (go_at_call 21; refine (isHeap_k (H2.out.k0 HK1.out)).mono ?_; rintro e w2 ⟨rfl, K2⟩; have HK2 := hid (HK1.out.chain K2); have A2 := HA.out.kp HK2.out (by simp); have c0 := A2.cell 0; have c1 := A2.cell 1; have c2 := A2.cell 2; have c3 := A2.cell 3; have c4 := A2.cell 4; have c5 := A2.cell 5; have c6 := A2.cell 6; clear K2 A2))
  go_ret
  exact ⟨_, rfl, Blk.new w2 33 (alCells b2 A), HK2.out.size, HK2.out.chain (Kp.new _ _)⟩
end
end Go.Proofs.Ytkkmlllajfafcaa
