/-
  The contract of the law's play, over a table and the reference's table that read as the same entries. Conditions: those that stand in each theorem.
-/
import Derived.Test.YthhgcjbmnkdgjaaD
import Derived.Test.YthhgcjbmnkdgjaaE
import Derived.Test.YthhgcjbmnkdgjaaF
import Derived.Test.YthhgcjbmnkdgjaaH
import Derived.Test.YthhgcjbmnkdgjaaI
import Derived.Test.YthhgcjbmnkdgjaaJ
import Derived.Deep.RegionHeld3
namespace Go.Proofs.Ythhgcjbmnkdgjaa
set_option linter.unusedVariables false
set_option linter.unusedSimpArgs false
open Go.RowKit

@[simp] theorem setL_length (wd : Nat) (L : List Nat) (i v : Int) : (setL wd L i v).length = L.length := by unfold setL; split <;> simp
@[simp] theorem fillL_length (wd : Nat) (L : List Nat) (a n v : Int) : (fillL wd L a n v).length = L.length := by unfold fillL; split <;> simp
@[simp] theorem swapL_length (wd : Nat) (L : List Nat) (i o v : Int) : (swapL wd L i o v).length = L.length := by unfold swapL; split <;> simp
@[simp] theorem addL_length (wd : Nat) (L : List Nat) (i d : Int) : (addL wd L i d).length = L.length := by unfold addL; split <;> simp

/-- A table and the reference's that read as the same entries. -/
def Both (w : World) (g h g' h' wd : Nat) (L : List Nat) : Prop := STab w g h wd L ∧ RTab w g' h' wd L
theorem Both.ne {w : World} {g h g' h' wd : Nat} {L : List Nat} (B : Both w g h g' h' wd L) : g ≠ h' ∧ h ≠ h' ∧ g' ≠ h := by
  obtain ⟨⟨ws, c, sp, _, _, _, _, _, _, b1, b2⟩, ⟨c', sp', _, _, _, _, _, _, _, d1, d2⟩⟩ := B
  exact ⟨b1.ne_ d2 (by decide), b2.ne_ d2 (by decide), (b2.ne_ d1 (by decide)).symm⟩
theorem Both.gh {w : World} {g h g' h' wd : Nat} {L : List Nat} (B : Both w g h g' h' wd L) : g ≠ h ∧ g' ≠ h' := by
  obtain ⟨⟨ws, c, sp, _, _, _, _, _, _, b1, b2⟩, R⟩ := B
  exact ⟨b1.ne_ b2 (by decide), R.gh⟩
theorem Both.kp {w w' : World} {S : List Nat} {g h g' h' wd : Nat} {L : List Nat} (B : Both w g h g' h' wd L) (k : Kp S w w') (h1 : g ∉ S) (h2 : h ∉ S) (h3 : g' ∉ S) (h4 : h' ∉ S) : Both w' g h g' h' wd L :=
  ⟨B.1.kp k h1 h2, B.2.kp k h3 h4⟩

def actV (k a b c : Int) : Value := .agg #[.int .i64 k, .int .i64 a, .int .i64 b, .int .i64 c]
def PlayP (w : World) (g h g' h' wd : Nat) (n : Nat) (e : Ending) (w' : World) : Prop :=
  e = .returned (.bool true) ∧ ∃ L, L.length = n ∧ Both w' g h g' h' wd L ∧ Kp [h, h'] w w'

theorem STab.h_ne {w : World} {g h wd b : Nat} {L : List Nat} {cs : Array Value} (T : STab w g h wd L) (B : Blk w b 33 cs) : b ≠ h := by
  obtain ⟨ws, c, sp, _, _, _, _, _, _, _, b2⟩ := T
  exact B.ne_ b2 (by decide)
theorem RTab.h_ne {w : World} {g h wd b : Nat} {L : List Nat} {cs : Array Value} (T : RTab w g h wd L) (B : Blk w b 33 cs) : b ≠ h := by
  obtain ⟨c, sp, _, _, _, _, _, _, _, _, b2⟩ := T
  exact B.ne_ b2 (by decide)
/-- What a call of play leaves: the table, the reference's, the box of its argument. -/
structure Mid (w W : World) (cs : Array Value) (g h g' h' wd : Nat) (L M : List Nat) : Prop where
  tab : STab W g h wd L
  ref : RTab W g' h' wd M
  box : Blk W w.heap.size 33 cs
  kp : Kp [h, h'] w W
section
variable {w W W' : World} {cs : Array Value} {g h g' h' wd : Nat} {L M N : List Nat}
theorem Mid.start (B : Both w g h g' h' wd L) (cs : Array Value) : Mid w (w.alloc (.cells cs 33)) cs g h g' h' wd L L :=
  ⟨B.1.kp (Kp.new w _) (by simp) (by simp), B.2.kp (Kp.new w _) (by simp) (by simp), Blk.new w 33 cs, (Kp.new w _).mono (by simp)⟩
theorem Mid.drew (m : Mid w W cs g h g' h' wd L M) : Mid w W.drew cs g h g' h' wd L M := ⟨m.tab, m.ref, m.box, m.kp.drewN 1⟩
theorem Mid.drewN (m : Mid w W cs g h g' h' wd L M) (n : Nat) : Mid w (W.drewN n) cs g h g' h' wd L M := ⟨m.tab, m.ref, m.box, m.kp.drewN n⟩
theorem Mid.one (m : Mid w W cs g h g' h' wd L M) (hn : g' ≠ h ∧ h' ≠ h) (T : STab W' g h wd N) (K : Kp [h] W W') : Mid w W' cs g h g' h' wd N M :=
  ⟨T, m.ref.kp K (by simpa using hn.1) (by simpa using hn.2), m.box.kp K (by simpa using m.tab.h_ne m.box), m.kp.trans K (by simp) (by simp)⟩
theorem Mid.two (m : Mid w W cs g h g' h' wd L M) (hn : g ≠ h' ∧ h ≠ h') (R : RTab W' g' h' wd N) (K : Kp [h'] W W') : Mid w W' cs g h g' h' wd L N :=
  ⟨m.tab.kp K (by simpa using hn.1) (by simpa using hn.2), R, m.box.kp K (by simpa using m.ref.h_ne m.box), m.kp.trans K (by simp) (by simp)⟩
theorem Mid.play (m : Mid w W cs g h g' h' wd L L) {n : Nat} (hn : L.length = n) : PlayP w g h g' h' wd n (.returned (.bool true)) W := ⟨rfl, L, hn, ⟨m.tab, m.ref⟩, m.kp⟩
def Apart (g h g' h' : Nat) : Prop := (g' ≠ h ∧ h' ≠ h) ∧ (g ≠ h' ∧ h ≠ h')
theorem Both.apart (B : Both w g h g' h' wd L) : Apart g h g' h' := ⟨⟨B.ne.2.2, B.ne.2.1.symm⟩, ⟨B.ne.1, B.ne.2.1⟩⟩

set_option maxRecDepth 100000 in
set_option maxHeartbeats 1000000 in
theorem play_set (B : Both w g h g' h' wd L) (a b c : Int) :
    Calls Try.prog 21 #[.pointer (some ⟨g, 0, none⟩), .pointer (some ⟨g', 0, none⟩), .agg #[.int .i64 0, .int .i64 a, .int .i64 b, .int .i64 c]] w (PlayP w g h g' h' wd L.length) := by
  have HA := hid B.apart
  have M0 := hid (Mid.start B #[.int .i64 0, .int .i64 a, .int .i64 b, .int .i64 c])
  clear B
  go_enter Try.func21, Try.ntmps21
  go_wp2
  go_region_held3 (fun W => W.cell? ⟨w.heap.size, 1, none⟩ = some (.int .i64 a) ∧ W.cell? ⟨w.heap.size, 2, none⟩ = some (.int .i64 b)) (go_keep)
    (first | (go_at_call 31; refine (set_any M0.out.drew.tab _ _).mono ?_; rintro e w1 ⟨rfl, T1, K1⟩; have M1 := hid (M0.out.drew.one HA.out.1 T1 K1); clear T1 K1; have q1 := M1.out.box.cell 1; have q2 := M1.out.box.cell 2) | (go_at_call 49; refine (r_set M1.out.ref _ _).mono ?_; rintro e w2 ⟨rfl, R1, K2⟩; have M2 := hid (M1.out.two HA.out.2 R1 K2); clear R1 K2; have p1 := M2.out.box.cell 1; have p2 := M2.out.box.cell 2))
  go_wp2
  go_ret
  exact M2.out.play (by simp)

set_option maxRecDepth 100000 in
set_option maxHeartbeats 1000000 in
theorem play_fill (B : Both w g h g' h' wd L) (a b c : Int) :
    Calls Try.prog 21 #[.pointer (some ⟨g, 0, none⟩), .pointer (some ⟨g', 0, none⟩), .agg #[.int .i64 1, .int .i64 a, .int .i64 b, .int .i64 c]] w (PlayP w g h g' h' wd L.length) := by
  have HA := hid B.apart
  have M0 := hid (Mid.start B #[.int .i64 1, .int .i64 a, .int .i64 b, .int .i64 c])
  clear B
  go_enter Try.func21, Try.ntmps21
  go_wp2
  go_region_held3 (fun W => W.cell? ⟨w.heap.size, 1, none⟩ = some (.int .i64 a) ∧ W.cell? ⟨w.heap.size, 2, none⟩ = some (.int .i64 b) ∧ W.cell? ⟨w.heap.size, 3, none⟩ = some (.int .i64 c)) (go_keep)
    (first | (go_at_call 32; refine (fill_any M0.out.drew.tab _ _ _).mono ?_; rintro e w1 ⟨rfl, T1, K1⟩; have M1 := hid (M0.out.drew.one HA.out.1 T1 K1); clear T1 K1; have q1 := M1.out.box.cell 1; have q2 := M1.out.box.cell 2; have q3 := M1.out.box.cell 3) | (go_at_call 50; refine (r_fill M1.out.ref _ _ _).mono ?_; rintro e w2 ⟨rfl, R1, K2⟩; have M2 := hid (M1.out.two HA.out.2 R1 K2); clear R1 K2; have p1 := M2.out.box.cell 1; have p2 := M2.out.box.cell 2; have p3 := M2.out.box.cell 3))
  go_wp2
  go_ret
  exact M2.out.play (by simp)

set_option maxRecDepth 100000 in
set_option maxHeartbeats 1000000 in
theorem play_swap (B : Both w g h g' h' wd L) (a b c : Int) :
    Calls Try.prog 21 #[.pointer (some ⟨g, 0, none⟩), .pointer (some ⟨g', 0, none⟩), .agg #[.int .i64 2, .int .i64 a, .int .i64 b, .int .i64 c]] w (PlayP w g h g' h' wd L.length) := by
  have HA := hid B.apart
  have M0 := hid (Mid.start B #[.int .i64 2, .int .i64 a, .int .i64 b, .int .i64 c])
  clear B
  go_enter Try.func21, Try.ntmps21
  go_wp2_with (first | (go_at_call 38; refine (swap_any M0.out.tab _ _ _).mono ?_; rintro e w1 ⟨rfl, T1, K1⟩; have M1 := hid (M0.out.one HA.out.1 T1 K1); clear T1 K1; have q1 := M1.out.box.cell 1; have q2 := M1.out.box.cell 2; have q3 := M1.out.box.cell 3) | (go_at_call 51; refine (r_swap M1.out.ref _ _ _).mono ?_; rintro e w2 ⟨rfl, R1, K2⟩; have M2 := hid (M1.out.two HA.out.2 R1 K2); clear R1 K2))
  go_ret
  exact M2.out.play (by simp)

set_option maxRecDepth 100000 in
set_option maxHeartbeats 1000000 in
theorem play_add (B : Both w g h g' h' wd L) (a b c : Int) :
    Calls Try.prog 21 #[.pointer (some ⟨g, 0, none⟩), .pointer (some ⟨g', 0, none⟩), .agg #[.int .i64 3, .int .i64 a, .int .i64 b, .int .i64 c]] w (PlayP w g h g' h' wd L.length) := by
  have HA := hid B.apart
  have M0 := hid (Mid.start B #[.int .i64 3, .int .i64 a, .int .i64 b, .int .i64 c])
  clear B
  go_enter Try.func21, Try.ntmps21
  go_wp2_with (first | (go_at_call 37; refine (add_any M0.out.tab _ _).mono ?_; rintro e w1 ⟨rfl, T1, K1⟩; have M1 := hid (M0.out.one HA.out.1 T1 K1); clear T1 K1; have q1 := M1.out.box.cell 1; have q2 := M1.out.box.cell 2; have q3 := M1.out.box.cell 3) | (go_at_call 52; refine (r_add M1.out.ref _ _).mono ?_; rintro e w2 ⟨rfl, R1, K2⟩; have M2 := hid (M1.out.two HA.out.2 R1 K2); clear R1 K2))
  go_ret
  exact M2.out.play (by simp)

set_option maxRecDepth 100000 in
set_option maxHeartbeats 1000000 in
theorem play_next (B : Both w g h g' h' wd L) (a b c : Int) :
    Calls Try.prog 21 #[.pointer (some ⟨g, 0, none⟩), .pointer (some ⟨g', 0, none⟩), .agg #[.int .i64 4, .int .i64 a, .int .i64 b, .int .i64 c]] w (PlayP w g h g' h' wd L.length) := by
  have HA := hid B.apart
  have M0 := hid (Mid.start B #[.int .i64 4, .int .i64 a, .int .i64 b, .int .i64 c])
  clear B
  go_enter Try.func21, Try.ntmps21
  go_wp2_with (first | (go_at_call 35; refine (next_any M0.out.tab _ _).mono ?_; rintro e w1 ⟨rfl, n1, rfl⟩) | (go_at_call 53; refine (r_next (M0.out.drewN n1).ref _ _).mono ?_; rintro e w2 ⟨rfl, n2, rfl⟩))
  go_ret
  exact (M0.out.drewN _).play rfl

set_option maxRecDepth 100000 in
set_option maxHeartbeats 1000000 in
theorem play_last (B : Both w g h g' h' wd L) (a b c : Int) :
    Calls Try.prog 21 #[.pointer (some ⟨g, 0, none⟩), .pointer (some ⟨g', 0, none⟩), .agg #[.int .i64 5, .int .i64 a, .int .i64 b, .int .i64 c]] w (PlayP w g h g' h' wd L.length) := by
  have HA := hid B.apart
  have M0 := hid (Mid.start B #[.int .i64 5, .int .i64 a, .int .i64 b, .int .i64 c])
  clear B
  go_enter Try.func21, Try.ntmps21
  go_wp2_with (first | (go_at_call 36; refine (last_any M0.out.tab _ _).mono ?_; rintro e w1 ⟨rfl, n1, rfl⟩) | (go_at_call 54; refine (r_last (M0.out.drewN n1).ref _ _).mono ?_; rintro e w2 ⟨rfl, n2, rfl⟩))
  go_ret
  exact (M0.out.drewN _).play rfl

set_option maxRecDepth 100000 in
set_option maxHeartbeats 1000000 in
theorem play_other (B : Both w g h g' h' wd L) (k a b c : Int) (hk : ¬ (0 ≤ k ∧ k ≤ 5)) :
    Calls Try.prog 21 #[.pointer (some ⟨g, 0, none⟩), .pointer (some ⟨g', 0, none⟩), .agg #[.int .i64 k, .int .i64 a, .int .i64 b, .int .i64 c]] w (PlayP w g h g' h' wd L.length) := by
  have M0 := hid (Mid.start B #[.int .i64 k, .int .i64 a, .int .i64 b, .int .i64 c])
  have e0 : (k == 0) = false := beq_eq_false_iff_ne.2 (by omega)
  have e1 : (k == 1) = false := beq_eq_false_iff_ne.2 (by omega)
  have e2 : (k == 2) = false := beq_eq_false_iff_ne.2 (by omega)
  have e3 : (k == 3) = false := beq_eq_false_iff_ne.2 (by omega)
  have e4 : (k == 4) = false := beq_eq_false_iff_ne.2 (by omega)
  have e5 : (k == 5) = false := beq_eq_false_iff_ne.2 (by omega)
  clear B hk
  go_enter Try.func21, Try.ntmps21
  go_wp2
  go_ret
  exact M0.out.play rfl
theorem play_any (B : Both w g h g' h' wd L) (k a b c : Int) :
    Calls Try.prog 21 #[.pointer (some ⟨g, 0, none⟩), .pointer (some ⟨g', 0, none⟩), .agg #[.int .i64 k, .int .i64 a, .int .i64 b, .int .i64 c]] w (PlayP w g h g' h' wd L.length) := by
  by_cases hk : 0 ≤ k ∧ k ≤ 5
  · have hk6 : k = 0 ∨ k = 1 ∨ k = 2 ∨ k = 3 ∨ k = 4 ∨ k = 5 := by omega
    rcases hk6 with rfl | rfl | rfl | rfl | rfl | rfl
    · exact play_set B a b c
    · exact play_fill B a b c
    · exact play_swap B a b c
    · exact play_add B a b c
    · exact play_next B a b c
    · exact play_last B a b c
  · exact play_other B k a b c hk
end
end Go.Proofs.Ythhgcjbmnkdgjaa
