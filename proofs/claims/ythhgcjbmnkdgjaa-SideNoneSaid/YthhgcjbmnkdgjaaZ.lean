/-
  The walk of the law SideNone. No condition.
-/
import Derived.Test.YthhgcjbmnkdgjaaY
namespace Go.Proofs.Ythhgcjbmnkdgjaa
set_option linter.unusedVariables false
set_option linter.unusedSimpArgs false
open Go.RowKit

structure Nn (w W : World) (b z : Nat) (cs : Array Value) : Prop where
  box : Blk W b 33 cs
  zero : W.cell? ⟨z, 0, none⟩ = some (.int .i64 0)
  kp : Kp [] w W
section
variable {w W W' : World} {b z : Nat} {cs : Array Value}
theorem Nn.drewN (a : Nn w W b z cs) (n : Nat) : Nn w (W.drewN n) b z cs := ⟨a.box, a.zero, a.kp.drewN n⟩
theorem Nn.next (a : Nn w W b z cs) (k : Kp [] W W') : Nn w W' b z cs :=
  ⟨a.box.kp k (by simp), by rw [← a.zero]; exact World.cell?_of_block (k.block z (cell_lt a.zero) (by simp)), a.kp.trans k (by simp) (by simp)⟩
theorem Nn.un (a : Nn w W b z cs) : Unmade W (.pointer (some ⟨z, 0, none⟩)) := .inr ⟨z, rfl, a.zero⟩
theorem Nn.start (w : World) (k a b c : Int) : Nn w ((w.alloc (.cells #[.int .i64 k, .int .i64 a, .int .i64 b, .int .i64 c] 33)).alloc (.cells #[.int .i64 0, .int .i64 0, .slice none 0 0] 44)) w.heap.size (w.heap.size + 1) #[.int .i64 k, .int .i64 a, .int .i64 b, .int .i64 c] :=
  ⟨(Blk.new w 33 _).kp (Kp.new _ _) (by simp), by
    have := (Blk.at_end (w := w.alloc (.cells #[.int .i64 k, .int .i64 a, .int .i64 b, .int .i64 c] 33)) (g := w.heap.size + 1) (t := 44) (cs := #[.int .i64 0, .int .i64 0, .slice none 0 0]) (by simp)).cell 0
    simp, (Kp.new _ _).trans (Kp.new _ _) (by simp) (by simp)⟩
theorem NotBoth.left {v v' : Value} (h : Unmade W v) : NotBoth W v v' := .inl h

set_option maxRecDepth 100000 in
set_option maxHeartbeats 2000000 in
theorem none_ok (w : World) (k a b c : Int) : Calls Try.prog 4 #[.agg #[.int .i64 k, .int .i64 a, .int .i64 b, .int .i64 c]] w (TrueP w) := by
  have N0 := hid (Nn.start w k a b c)
  go_enter Try.func4, Try.ntmps4
  go_wp2_with (first
    | (go_at_call 19; refine (merge_not (v' := .pointer (some ⟨w.heap.size + 1, 0, none⟩)) (NotBoth.left (un_nil _)) _).mono ?_; rintro e w' ⟨rfl, n1, rfl⟩; have N1 := hid (N0.out.drewN n1); clear N0)
    | ((go_at_call 21; with_reducible refine (play_un (un_nil _) k a b c).mono ?_); rintro e w2 ⟨rfl, k2⟩; have N2 := hid (N1.out.next k2); clear N1 k2; have q1 := N2.out.box.cell 1; have q2 := N2.out.box.cell 2; have q3 := N2.out.box.cell 3; have q0 := N2.out.box.cell 0)
    | ((go_at_call 21; with_reducible refine (play_un N2.out.un k a b c).mono ?_); rintro e w3 ⟨rfl, k3⟩; have N3 := hid (N2.out.next k3); clear q0 q1 q2 q3 N2 k3; have q1 := N3.out.box.cell 1; have q2 := N3.out.box.cell 2)
    | ((go_at_call 23; with_reducible refine (looks_un (un_nil _) b).mono ?_); rintro e w4 ⟨rfl, k4⟩; have N4 := hid (N3.out.next k4); clear q1 q2 N3 k4; have q1 := N4.out.box.cell 1; have q2 := N4.out.box.cell 2)
    | ((go_at_call 23; with_reducible refine (looks_un N4.out.un b).mono ?_); rintro e w5 ⟨rfl, k5⟩; have N5 := hid (N4.out.next k5); clear q1 q2 N4 k5; have q1 := N5.out.box.cell 1; have q2 := N5.out.box.cell 2)
    | ((go_at_call 24; with_reducible refine (get_un (un_nil _) a).mono ?_); rintro e w' ⟨rfl, n6, rfl⟩)
    | ((go_at_call 24; with_reducible refine (get_un (N5.out.drewN _).un a).mono ?_); rintro e w' ⟨rfl, n7, rfl⟩)
    | ((go_at_call 25; with_reducible refine (entries_un (un_nil _)).mono ?_); rintro e w' ⟨rfl, n8, rfl⟩)
    | ((go_at_call 25; with_reducible refine (entries_un (N5.out.drewN _).un).mono ?_); rintro e w' ⟨rfl, n9, rfl⟩)
    | ((go_at_call 26; with_reducible refine (width_un (un_nil _)).mono ?_); rintro e w' ⟨rfl, n10, rfl⟩)
    | ((go_at_call 26; with_reducible refine (width_un (N5.out.drewN _).un).mono ?_); rintro e w' ⟨rfl, n11, rfl⟩)
    | ((go_at_call 17; with_reducible refine (clone_un (un_nil _)).mono ?_); rintro e w' ⟨rfl, n12, rfl⟩)
    | ((go_at_call 17; with_reducible refine (clone_un (N5.out.drewN _).un).mono ?_); rintro e w' ⟨rfl, n13, rfl⟩)
    | ((go_at_call 27; with_reducible refine (same_not (v' := .pointer none) (NotBoth.left (un_nil _))).mono ?_); rintro e w' ⟨rfl, n14, rfl⟩)
    | ((go_at_call 27; with_reducible refine (same_not (v' := .pointer (some ⟨w.heap.size + 1, 0, none⟩)) (NotBoth.left (N5.out.drewN _).un)).mono ?_); rintro e w' ⟨rfl, n15, rfl⟩)
    | (go_at_call 14; refine (alive_ok _).mono ?_; rintro e w6 ⟨rfl, k6⟩; have N6 := hid ((N5.out.drewN _).next k6); clear k6))
  go_ret
  exact ⟨rfl, N6.out.kp⟩
end
end Go.Proofs.Ythhgcjbmnkdgjaa
