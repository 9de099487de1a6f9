/-
  The contracts of package side's merged and Merge. Conditions: those that stand in each theorem.
-/
import Derived.Test.YthhgcjbmnkdgjaaS
namespace Go.Proofs.Ythhgcjbmnkdgjaa
set_option linter.unusedVariables false
set_option linter.unusedSimpArgs false
open Go.RowKit Go.Deep

theorem mergeN_le {wd : Nat} {op : Int} {x y m : Nat} (hx : x ≤ m) (hy : y ≤ m) : mergeN wd op x y ≤ m := by
  unfold mergeN
  split
  · omega
  · split <;> omega
@[simp] theorem mergeL_length (wd : Nat) (op : Int) (L M : List Nat) (n : Nat) : (mergeL wd op L M n).length = L.length := by
  induction n with
  | zero => rfl
  | succ n ih => simp [mergeL, ih]

def opB (op : Int) : Bool := decide (0 ≤ op ∧ op ≤ 2)
theorem op_cases {op : Int} (h : opB op = true) : op = 0 ∨ op = 1 ∨ op = 2 := by
  have := of_decide_eq_true h
  omega

set_option maxHeartbeats 1000000 in
theorem merged_any (wd x y : Nat) (op : Int) (w : World) (ho : opB op = true) (hx : x ≤ 255) (hy : y ≤ 255) :
    Calls Try.prog 47 #[.int .i64 (x : Int), .int .i64 (y : Int), .int .i64 op] w fun e w' => e = .returned (.int .i64 ((mergeN wd op x y : Nat) : Int)) ∧ ∃ m, w' = w.drewN m := by
  rcases op_cases ho with rfl | rfl | rfl
  · by_cases h : y < x
    · have e : mergeN wd 0 x y = x := by unfold mergeN; rw [if_pos rfl]; omega
      rw [e]
      clear e ho
      go_enter Try.func47, Try.ntmps47
      go_wp2
      all_goals
        go_ret
        exact ⟨congrArg (fun z => Ending.returned (Value.int IntKind.i64 z)) (by show _ = _; omega), 0, rfl⟩
    · have e : mergeN wd 0 x y = y := by unfold mergeN; rw [if_pos rfl]; omega
      rw [e]
      clear e ho
      go_enter Try.func47, Try.ntmps47
      go_wp2
      all_goals
        go_ret
        exact ⟨congrArg (fun z => Ending.returned (Value.int IntKind.i64 z)) (by show _ = _; omega), 0, rfl⟩
  · by_cases h : x < y
    · have e : mergeN wd 1 x y = x := by unfold mergeN; rw [if_neg (by decide), if_pos rfl]; omega
      rw [e]
      clear e ho
      go_enter Try.func47, Try.ntmps47
      go_wp2
      all_goals
        go_ret
        exact ⟨congrArg (fun z => Ending.returned (Value.int IntKind.i64 z)) (by show _ = _; omega), 0, rfl⟩
    · have e : mergeN wd 1 x y = y := by unfold mergeN; rw [if_neg (by decide), if_pos rfl]; omega
      rw [e]
      clear e ho
      go_enter Try.func47, Try.ntmps47
      go_wp2
      all_goals
        go_ret
        exact ⟨congrArg (fun z => Ending.returned (Value.int IntKind.i64 z)) (by show _ = _; omega), 0, rfl⟩
  · by_cases h : y < x
    · have e : mergeN wd 2 x y = x - y := by unfold mergeN; rw [if_neg (by decide), if_neg (by decide)]
      rw [e]
      clear e ho
      go_enter Try.func47, Try.ntmps47
      go_wp2
      all_goals
        go_ret
        exact ⟨congrArg (fun z => Ending.returned (Value.int IntKind.i64 z)) (by show _ = _; omega), 0, rfl⟩
    · have e : mergeN wd 2 x y = 0 := by unfold mergeN; rw [if_neg (by decide), if_neg (by decide)]; omega
      rw [e]
      clear e ho
      go_enter Try.func47, Try.ntmps47
      go_wp2
      all_goals
        go_ret
        exact ⟨congrArg (fun z => Ending.returned (Value.int IntKind.i64 z)) (by show _ = _; omega), 0, rfl⟩

/-- A new table as a first result, OK as the second. -/
def MadeP (w : World) (wd : Nat) (L : List Nat) (e : Ending) (w' : World) : Prop :=
  ∃ g h, e = .returned (.tuple #[.pointer (some ⟨g, 0, none⟩), .int .i64 0]) ∧ STab w' g h wd L ∧ Kp [] w w' ∧ w.heap.size ≤ g ∧ w.heap.size ≤ h
def RMadeP (w : World) (wd : Nat) (L : List Nat) (e : Ending) (w' : World) : Prop :=
  ∃ g h, e = .returned (.tuple #[.pointer (some ⟨g, 0, none⟩), .int .i64 0]) ∧ RTab w' g h wd L ∧ Kp [] w w' ∧ w.heap.size ≤ g ∧ w.heap.size ≤ h

section
variable {w : World} {g h wd g' h' wd' : Nat} {L L' : List Nat}
theorem merge_bad (T : STab w g h wd L) (T' : STab w g' h' wd' L') (op : Int) (hb : (decide (L.length = L'.length) && decide (wd = wd') && opB op) = false) :
    Calls Try.prog 19 #[.pointer (some ⟨g, 0, none⟩), .pointer (some ⟨g', 0, none⟩), .int .i64 op] w fun e w' => e = .returned (.tuple #[.pointer none, .int .i64 1]) ∧ ∃ m, w' = w.drewN m := by
  have AL := alike_any T T'
  rcases hal : decide (L.length = L'.length) && decide (wd = wd')
  · rw [hal] at AL
    have AL := hid AL
    clear hal hb
    go_enter Try.func19, Try.ntmps19
    go_wp2_with (go_at_call 45; refine AL.out.mono ?_; rintro e w' ⟨rfl, n1, rfl⟩)
    go_ret2
    exact ⟨rfl, _, rfl⟩
  · rw [hal] at AL hb
    have AL := hid AL
    have ho : ¬ (0 ≤ op ∧ op ≤ 2) := of_decide_eq_false (by simpa [opB] using hb)
    clear hal hb
    by_cases h0 : op < 0
    · clear ho
      go_enter Try.func19, Try.ntmps19
      go_wp2_with (go_at_call 45; refine AL.out.mono ?_; rintro e w' ⟨rfl, n1, rfl⟩)
      go_ret2
      exact ⟨rfl, _, rfl⟩
    · have h2 : 2 < op := by omega
      clear ho
      go_enter Try.func19, Try.ntmps19
      go_wp2_with (go_at_call 45; refine AL.out.mono ?_; rintro e w' ⟨rfl, n1, rfl⟩)
      go_ret2
      exact ⟨rfl, _, rfl⟩
set_option maxHeartbeats 2000000 in
theorem merge_ok (T : STab w g h wd L) (T' : STab w g' h' wd L') (op : Int) (hl : L.length = L'.length) (ho : opB op = true) :
    Calls Try.prog 19 #[.pointer (some ⟨g, 0, none⟩), .pointer (some ⟨g', 0, none⟩), .int .i64 op] w (MadeP w wd (mergeL wd op L L' L.length)) := by
  have AL := alike_any T T'
  rw [decide_eq_true hl, decide_eq_true rfl] at AL
  have AL := hid AL
  have hle := T.le
  have h0 : 0 ≤ op := (of_decide_eq_true ho).1
  have h2 : op ≤ 2 := (of_decide_eq_true ho).2
  have HL := hid hl
  have T0 := T
  have T0' := T'
  clear hl T T'
  go_enter Try.func19, Try.ntmps19
  go_wp2_with (first | (go_at_call 45; refine AL.out.mono ?_; rintro e w' ⟨rfl, n1, rfl⟩) | (go_at_call 17; refine (clone_any (w := w.drewN n1) T0).mono ?_; rintro e w1 ⟨g2, h2', rfl, T2, K2, hg2, hh2⟩; have hcl := T2.cell0; have HT2 := hid T2; have HK2 := hid K2; have HG2 := hid hg2; have HH2 := hid hh2; clear T2 K2 hg2 hh2))
  go_loopw [28] (fun c wr => ∃ k : Nat, k ≤ L.length ∧ c = .int .i64 (k : Int) ∧ STab wr g2 h2' wd (mergeL wd op L L' k) ∧ Kp [] w wr) (fun c _ => L.length - (intOf c).toNat)
  case atStart => exact ⟨0, by omega, rfl, HT2.out, HK2.out.from_drewN⟩
  case round =>
    obtain ⟨k, hk, rfl, T1, K1⟩ := hrel
    clear hcl
    by_cases hlt : k < L.length
    · have Ta := T0.kp K1 (by simp) (by simp)
      have Tb := T0'.kp K1 (by simp) (by simp)
      have hlt' : Hid (k < L'.length) := by have := HL.out; show _ < _; omega
      have hx : ent L k ≤ 255 := by have := T0.lt k; have := T0.wd_ok.pow_le; omega
      have hy : ent L' k ≤ 255 := by have := T0'.lt k; have := T0.wd_ok.pow_le; omega
      have HM : Hid (mergeN wd op (ent L k) (ent L' k) < 2 ^ wd) := lt_of_most (mergeN_le (most_of_lt (T0.lt k)) (most_of_lt (T0'.lt k)))
      have HK : Hid (k < (mergeL wd op L L' k).length) := by show _ < _; rw [mergeL_length]; exact hlt
      have HT1 := hid T1
      have HK1 := hid K1
      clear T0 T0' T1 K1
      go_wp2_with (first | (go_at_call_of 48 (Value.pointer (some ⟨g, 0, none⟩)); refine (load_ok Ta k hlt).mono ?_; rintro e w' ⟨rfl, n5, rfl⟩) | (go_at_call_of 48 (Value.pointer (some ⟨g', 0, none⟩)); refine (load_ok (w := wr.drewN n5) Tb k hlt'.out).mono ?_; rintro e w' ⟨rfl, n6, rfl⟩) | (go_at_call 47; refine (merged_any wd _ _ op _ ho hx hy).mono ?_; rintro e w' ⟨rfl, n7, rfl⟩) | (go_at_call 46; refine (store_ok (w := wr.drewN _) HT1.out k HK.out _ HM.out).mono ?_; rintro e w' ⟨rfl, T3, K3⟩))
      go_roundw
      case rel => exact ⟨k + 1, by omega, by go_num, T3, HK1.out.trans K3.from_drewN (by simp) (by simp; exact HH2.out)⟩
      case measure => simp [intOf]; omega
    · obtain rfl : k = L.length := by omega
      go_wp2
      go_ret2
      exact ⟨g2, h2', rfl, T1, K1, HG2.out, HH2.out⟩
end
end Go.Proofs.Ythhgcjbmnkdgjaa
