/-
  The contracts of the reference's Merge and Same. Conditions: those that stand in each theorem.
-/
import Derived.Test.YthhgcjbmnkdgjaaMf
namespace Go.Proofs.Ythhgcjbmnkdgjaa
set_option linter.unusedVariables false
set_option linter.unusedSimpArgs false
open Go.RowKit Go.Deep

section
variable {w W W' : World} {g h g' h' wd wd' : Nat} {L L' : List Nat}

set_option maxRecDepth 100000 in
set_option maxHeartbeats 1000000 in
theorem r_merge_len (T : RTab w g h wd L) (T' : RTab w g' h' wd' L') (op : Int) (hl : L.length ≠ L'.length) :
    Calls Try.prog 20 #[.pointer (some ⟨g, 0, none⟩), .pointer (some ⟨g', 0, none⟩), .int .i64 op] w fun e w' => e = .returned (.tuple #[.pointer none, .int .i64 1]) ∧ ∃ m, w' = w.drewN m := by
  obtain ⟨c, c2⟩ := T.cell2
  obtain ⟨c', d2⟩ := T'.cell2
  have c0 := T.cell0
  have d0 := T'.cell0
  have g1 : (((L.length : Nat) : Int) != ((L'.length : Nat) : Int)) = true := bne_iff_ne.2 (by omega)
  clear hl
  generalize L.length = n at *
  generalize L'.length = n' at *
  go_enter Try.func20, Try.ntmps20
  go_wp2_with (fail)
  go_quiet ((first | (go_at_call 44; exact Calls.quiet_of (r_made (w := w.drewN _) T)) | (go_at_call 44; exact Calls.quiet_of (r_made (w := w.drewN _) T'))))
  go_wp2
  go_ret2
  exact ⟨rfl, _, rfl⟩

set_option maxRecDepth 100000 in
set_option maxHeartbeats 1000000 in
theorem r_merge_wd (T : RTab w g h wd L) (T' : RTab w g' h' wd' L') (op : Int) (hl : L.length = L'.length) (hw : wd ≠ wd') :
    Calls Try.prog 20 #[.pointer (some ⟨g, 0, none⟩), .pointer (some ⟨g', 0, none⟩), .int .i64 op] w fun e w' => e = .returned (.tuple #[.pointer none, .int .i64 1]) ∧ ∃ m, w' = w.drewN m := by
  obtain ⟨c, c2⟩ := T.cell2
  obtain ⟨c', d2⟩ := T'.cell2
  have c0 := T.cell0
  have d0 := T'.cell0
  have g1 : (((L.length : Nat) : Int) != ((L'.length : Nat) : Int)) = false := by rw [hl]; exact bne_self_eq_false _
  have g2 : (((wd : Nat) : Int) != ((wd' : Nat) : Int)) = true := bne_iff_ne.2 (by omega)
  clear hl hw
  generalize L.length = n at *
  generalize L'.length = n' at *
  go_enter Try.func20, Try.ntmps20
  go_wp2_with (fail)
  go_quiet ((first | (go_at_call 44; exact Calls.quiet_of (r_made (w := w.drewN _) T)) | (go_at_call 44; exact Calls.quiet_of (r_made (w := w.drewN _) T'))))
  go_wp2
  go_ret2
  exact ⟨rfl, _, rfl⟩

set_option maxRecDepth 100000 in
set_option maxHeartbeats 1000000 in
theorem r_merge_lo (T : RTab w g h wd L) (T' : RTab w g' h' wd' L') (op : Int) (hl : L.length = L'.length) (hw : wd = wd') (ho : op < 0) :
    Calls Try.prog 20 #[.pointer (some ⟨g, 0, none⟩), .pointer (some ⟨g', 0, none⟩), .int .i64 op] w fun e w' => e = .returned (.tuple #[.pointer none, .int .i64 1]) ∧ ∃ m, w' = w.drewN m := by
  obtain ⟨c, c2⟩ := T.cell2
  obtain ⟨c', d2⟩ := T'.cell2
  have c0 := T.cell0
  have d0 := T'.cell0
  have g1 : (((L.length : Nat) : Int) != ((L'.length : Nat) : Int)) = false := by rw [hl]; exact bne_self_eq_false _
  have g2 : (((wd : Nat) : Int) != ((wd' : Nat) : Int)) = false := by rw [hw]; exact bne_self_eq_false _
  have g3 : decide (op < 0) = true := decide_eq_true ho
  clear hl hw
  generalize L.length = n at *
  generalize L'.length = n' at *
  go_enter Try.func20, Try.ntmps20
  go_wp2_with (fail)
  go_quiet ((first | (go_at_call 44; exact Calls.quiet_of (r_made (w := w.drewN _) T)) | (go_at_call 44; exact Calls.quiet_of (r_made (w := w.drewN _) T'))))
  go_wp2
  go_ret2
  exact ⟨rfl, _, rfl⟩

set_option maxRecDepth 100000 in
set_option maxHeartbeats 1000000 in
theorem r_merge_hi (T : RTab w g h wd L) (T' : RTab w g' h' wd' L') (op : Int) (hl : L.length = L'.length) (hw : wd = wd') (ho : 2 < op) :
    Calls Try.prog 20 #[.pointer (some ⟨g, 0, none⟩), .pointer (some ⟨g', 0, none⟩), .int .i64 op] w fun e w' => e = .returned (.tuple #[.pointer none, .int .i64 1]) ∧ ∃ m, w' = w.drewN m := by
  obtain ⟨c, c2⟩ := T.cell2
  obtain ⟨c', d2⟩ := T'.cell2
  have c0 := T.cell0
  have d0 := T'.cell0
  have g1 : (((L.length : Nat) : Int) != ((L'.length : Nat) : Int)) = false := by rw [hl]; exact bne_self_eq_false _
  have g2 : (((wd : Nat) : Int) != ((wd' : Nat) : Int)) = false := by rw [hw]; exact bne_self_eq_false _
  have g3 : decide (op < 0) = false := decide_eq_false (by omega)
  have g4 : decide (2 < op) = true := decide_eq_true ho
  clear hl hw
  generalize L.length = n at *
  generalize L'.length = n' at *
  go_enter Try.func20, Try.ntmps20
  go_wp2_with (fail)
  go_quiet ((first | (go_at_call 44; exact Calls.quiet_of (r_made (w := w.drewN _) T)) | (go_at_call 44; exact Calls.quiet_of (r_made (w := w.drewN _) T'))))
  go_wp2
  go_ret2
  exact ⟨rfl, _, rfl⟩

set_option maxRecDepth 100000 in
set_option maxHeartbeats 1000000 in
theorem r_merge_nil1 (v' : Value) (op : Int) :
    Calls Try.prog 20 #[.pointer none, v', .int .i64 op] w fun e w' => e = .returned (.tuple #[.pointer none, .int .i64 1]) ∧ ∃ m, w' = w.drewN m := by
  go_enter Try.func20, Try.ntmps20
  go_wp2_with (fail)
  go_quiet ((go_at_call 44; exact Calls.quiet_of (r_made_nil (w.drewN _))))
  go_wp2
  go_ret2
  exact ⟨rfl, _, rfl⟩
set_option maxRecDepth 100000 in
set_option maxHeartbeats 1000000 in
theorem r_merge_nil2 (T : RTab w g h wd L) (op : Int) :
    Calls Try.prog 20 #[.pointer (some ⟨g, 0, none⟩), .pointer none, .int .i64 op] w fun e w' => e = .returned (.tuple #[.pointer none, .int .i64 1]) ∧ ∃ m, w' = w.drewN m := by
  go_enter Try.func20, Try.ntmps20
  go_wp2_with (fail)
  go_quiet ((first | (go_at_call_of 44 (Value.pointer none); exact Calls.quiet_of (r_made_nil (w.drewN _))) | (go_at_call 44; exact Calls.quiet_of (r_made (w := w.drewN _) T))))
  go_wp2
  go_ret2
  exact ⟨rfl, _, rfl⟩
set_option maxRecDepth 100000 in
set_option maxHeartbeats 4000000 in
theorem r_merge_ok0 (T : RTab w g h wd L) (T' : RTab w g' h' wd L') (hl : L.length = L'.length) :
    Calls Try.prog 20 #[.pointer (some ⟨g, 0, none⟩), .pointer (some ⟨g', 0, none⟩), .int .i64 0] w (RMadeP w wd (mergeL wd 0 L L' L.length)) := by
  obtain ⟨c, c2⟩ := T.cell2
  obtain ⟨c', d2⟩ := T'.cell2
  have c0 := T.cell0
  have d0 := T'.cell0
  have hle := T.le
  rw [← hl] at d2
  have HL := hid hl
  have HT := hid T
  have HT' := hid T'
  clear hl
  go_enter Try.func20, Try.ntmps20
  go_wp2_with (fail)
  go_quiet ((first | (go_at_call 44; exact Calls.quiet_of (r_made (w := w.drewN _) T)) | (go_at_call 44; exact Calls.quiet_of (r_made (w := w.drewN _) T'))))
  clear c2 d2 c0 d0 T T'
  go_wp2_with (go_at_call 18; refine (r_clone (HT.out.drewN _)).mono ?_; rintro e w1 ⟨g2, h2, rfl, T2, K2, hg2, hh2⟩; have HT2 := hid T2; have HK2 := hid K2.from_drewN; have HG2 : Hid (w.heap.size ≤ g2) := hg2; have HH2 : Hid (w.heap.size ≤ h2) := hh2; clear T2 K2 hg2 hh2)
  go_loopw [9] (fun c wr => ∃ k : Nat, k ≤ L.length ∧ c = .int .i64 (k : Int) ∧ RTab wr g2 h2 wd (mergeL wd 0 L L' k) ∧ Kp [] w wr) (fun c _ => L.length - (intOf c).toNat)
  case atStart => exact ⟨0, by omega, rfl, HT2.out, HK2.out⟩
  case round =>
    obtain ⟨k, hk, rfl, T1, K1⟩ := hrel
    have Ta := HT.out.kp K1 (by simp) (by simp)
    obtain ⟨ca, a2⟩ := Ta.cell2
    by_cases hlt : k < L.length
    · have Tb := HT'.out.kp K1 (by simp) (by simp)
      obtain ⟨cb, b2⟩ := Tb.cell2
      obtain ⟨co, o2⟩ := T1.cell2
      rw [mergeL_length] at o2
      rw [← HL.out] at b2
      have x1 := Ta.at_ hlt
      have x2 := Tb.at_ (show k < L'.length by have := HL.out; omega)
      have hlm : k < (mergeL wd 0 L L' k).length := by rw [mergeL_length]; exact hlt
      have x3 := T1.at_ hlm
      have x4 := T1.frozen k
      have hx : ent L k ≤ 255 := by have := HT.out.lt k; have := HT.out.wd_ok.pow_le; omega
      have hy : ent L' k ≤ 255 := by have := HT'.out.lt k; have := HT.out.wd_ok.pow_le; omega
      have HM : Hid (mergeN wd 0 (ent L k) (ent L' k) < 2 ^ wd) := lt_of_most (mergeN_le (most_of_lt (HT.out.lt k)) (most_of_lt (HT'.out.lt k)))
      have HLM := hid hlm
      have HT1 := hid T1
      have HK1 := hid K1
      have hw : IntKind.i64.wrap (((ent L k : Nat) : Int) - ((ent L' k : Nat) : Int)) = ((ent L k : Nat) : Int) - ((ent L' k : Nat) : Int) := IntWalk.i64_in _ (by omega)
      clear T1 K1 Ta Tb hlm
      go_wp2
      go_region
      have hV : (if ent L k < ent L' k then ((ent L' k : Nat) : Int) else ((ent L k : Nat) : Int)) = ((mergeN wd 0 (ent L k) (ent L' k) : Nat) : Int) := by
        have e : mergeN wd 0 (ent L k) (ent L' k) = max (ent L k) (ent L' k) := by simp [mergeN]
        rw [e]; clear hw; split <;> omega
      rw [hV]
      have T2 := hid ((HT1.out.store HLM.out HM.out).drewN 1)
      have K2 := hid (HK1.out.trans ((Kp.cell wr ⟨h2, k, none⟩ (.int .i64 ((mergeN wd 0 (ent L k) (ent L' k) : Nat) : Int))).drewN 1) (U := []) (by simp) (by simpa using HH2.out))
      clear hV hw x1 x2 x3 x4 a2 b2 o2
      go_wp2
      go_roundw
      case rel => exact ⟨k + 1, by omega, by go_num, T2.out, K2.out⟩
      case measure => simp [intOf]; omega
    · obtain rfl : k = L.length := by omega
      clear Ta
      go_wp2
      go_ret2
      exact ⟨g2, h2, rfl, T1, K1, HG2.out, HH2.out⟩
set_option maxRecDepth 100000 in
set_option maxHeartbeats 4000000 in
theorem r_merge_ok1 (T : RTab w g h wd L) (T' : RTab w g' h' wd L') (hl : L.length = L'.length) :
    Calls Try.prog 20 #[.pointer (some ⟨g, 0, none⟩), .pointer (some ⟨g', 0, none⟩), .int .i64 1] w (RMadeP w wd (mergeL wd 1 L L' L.length)) := by
  obtain ⟨c, c2⟩ := T.cell2
  obtain ⟨c', d2⟩ := T'.cell2
  have c0 := T.cell0
  have d0 := T'.cell0
  have hle := T.le
  rw [← hl] at d2
  have HL := hid hl
  have HT := hid T
  have HT' := hid T'
  clear hl
  go_enter Try.func20, Try.ntmps20
  go_wp2_with (fail)
  go_quiet ((first | (go_at_call 44; exact Calls.quiet_of (r_made (w := w.drewN _) T)) | (go_at_call 44; exact Calls.quiet_of (r_made (w := w.drewN _) T'))))
  clear c2 d2 c0 d0 T T'
  go_wp2_with (go_at_call 18; refine (r_clone (HT.out.drewN _)).mono ?_; rintro e w1 ⟨g2, h2, rfl, T2, K2, hg2, hh2⟩; have HT2 := hid T2; have HK2 := hid K2.from_drewN; have HG2 : Hid (w.heap.size ≤ g2) := hg2; have HH2 : Hid (w.heap.size ≤ h2) := hh2; clear T2 K2 hg2 hh2)
  go_loopw [9] (fun c wr => ∃ k : Nat, k ≤ L.length ∧ c = .int .i64 (k : Int) ∧ RTab wr g2 h2 wd (mergeL wd 1 L L' k) ∧ Kp [] w wr) (fun c _ => L.length - (intOf c).toNat)
  case atStart => exact ⟨0, by omega, rfl, HT2.out, HK2.out⟩
  case round =>
    obtain ⟨k, hk, rfl, T1, K1⟩ := hrel
    have Ta := HT.out.kp K1 (by simp) (by simp)
    obtain ⟨ca, a2⟩ := Ta.cell2
    by_cases hlt : k < L.length
    · have Tb := HT'.out.kp K1 (by simp) (by simp)
      obtain ⟨cb, b2⟩ := Tb.cell2
      obtain ⟨co, o2⟩ := T1.cell2
      rw [mergeL_length] at o2
      rw [← HL.out] at b2
      have x1 := Ta.at_ hlt
      have x2 := Tb.at_ (show k < L'.length by have := HL.out; omega)
      have hlm : k < (mergeL wd 1 L L' k).length := by rw [mergeL_length]; exact hlt
      have x3 := T1.at_ hlm
      have x4 := T1.frozen k
      have hx : ent L k ≤ 255 := by have := HT.out.lt k; have := HT.out.wd_ok.pow_le; omega
      have hy : ent L' k ≤ 255 := by have := HT'.out.lt k; have := HT.out.wd_ok.pow_le; omega
      have HM : Hid (mergeN wd 1 (ent L k) (ent L' k) < 2 ^ wd) := lt_of_most (mergeN_le (most_of_lt (HT.out.lt k)) (most_of_lt (HT'.out.lt k)))
      have HLM := hid hlm
      have HT1 := hid T1
      have HK1 := hid K1
      have hw : IntKind.i64.wrap (((ent L k : Nat) : Int) - ((ent L' k : Nat) : Int)) = ((ent L k : Nat) : Int) - ((ent L' k : Nat) : Int) := IntWalk.i64_in _ (by omega)
      clear T1 K1 Ta Tb hlm
      go_wp2
      go_region
      have hV : (if ent L' k < ent L k then ((ent L' k : Nat) : Int) else ((ent L k : Nat) : Int)) = ((mergeN wd 1 (ent L k) (ent L' k) : Nat) : Int) := by
        have e : mergeN wd 1 (ent L k) (ent L' k) = min (ent L k) (ent L' k) := by simp [mergeN]
        rw [e]; clear hw; split <;> omega
      rw [hV]
      have T2 := hid ((HT1.out.store HLM.out HM.out).drewN 1)
      have K2 := hid (HK1.out.trans ((Kp.cell wr ⟨h2, k, none⟩ (.int .i64 ((mergeN wd 1 (ent L k) (ent L' k) : Nat) : Int))).drewN 1) (U := []) (by simp) (by simpa using HH2.out))
      clear hV hw x1 x2 x3 x4 a2 b2 o2
      go_wp2
      go_roundw
      case rel => exact ⟨k + 1, by omega, by go_num, T2.out, K2.out⟩
      case measure => simp [intOf]; omega
    · obtain rfl : k = L.length := by omega
      clear Ta
      go_wp2
      go_ret2
      exact ⟨g2, h2, rfl, T1, K1, HG2.out, HH2.out⟩
set_option maxRecDepth 100000 in
set_option maxHeartbeats 4000000 in
theorem r_merge_ok2 (T : RTab w g h wd L) (T' : RTab w g' h' wd L') (hl : L.length = L'.length) :
    Calls Try.prog 20 #[.pointer (some ⟨g, 0, none⟩), .pointer (some ⟨g', 0, none⟩), .int .i64 2] w (RMadeP w wd (mergeL wd 2 L L' L.length)) := by
  obtain ⟨c, c2⟩ := T.cell2
  obtain ⟨c', d2⟩ := T'.cell2
  have c0 := T.cell0
  have d0 := T'.cell0
  have hle := T.le
  rw [← hl] at d2
  have HL := hid hl
  have HT := hid T
  have HT' := hid T'
  clear hl
  go_enter Try.func20, Try.ntmps20
  go_wp2_with (fail)
  go_quiet ((first | (go_at_call 44; exact Calls.quiet_of (r_made (w := w.drewN _) T)) | (go_at_call 44; exact Calls.quiet_of (r_made (w := w.drewN _) T'))))
  clear c2 d2 c0 d0 T T'
  go_wp2_with (go_at_call 18; refine (r_clone (HT.out.drewN _)).mono ?_; rintro e w1 ⟨g2, h2, rfl, T2, K2, hg2, hh2⟩; have HT2 := hid T2; have HK2 := hid K2.from_drewN; have HG2 : Hid (w.heap.size ≤ g2) := hg2; have HH2 : Hid (w.heap.size ≤ h2) := hh2; clear T2 K2 hg2 hh2)
  go_loopw [9] (fun c wr => ∃ k : Nat, k ≤ L.length ∧ c = .int .i64 (k : Int) ∧ RTab wr g2 h2 wd (mergeL wd 2 L L' k) ∧ Kp [] w wr) (fun c _ => L.length - (intOf c).toNat)
  case atStart => exact ⟨0, by omega, rfl, HT2.out, HK2.out⟩
  case round =>
    obtain ⟨k, hk, rfl, T1, K1⟩ := hrel
    have Ta := HT.out.kp K1 (by simp) (by simp)
    obtain ⟨ca, a2⟩ := Ta.cell2
    by_cases hlt : k < L.length
    · have Tb := HT'.out.kp K1 (by simp) (by simp)
      obtain ⟨cb, b2⟩ := Tb.cell2
      obtain ⟨co, o2⟩ := T1.cell2
      rw [mergeL_length] at o2
      rw [← HL.out] at b2
      have x1 := Ta.at_ hlt
      have x2 := Tb.at_ (show k < L'.length by have := HL.out; omega)
      have hlm : k < (mergeL wd 2 L L' k).length := by rw [mergeL_length]; exact hlt
      have x3 := T1.at_ hlm
      have x4 := T1.frozen k
      have hx : ent L k ≤ 255 := by have := HT.out.lt k; have := HT.out.wd_ok.pow_le; omega
      have hy : ent L' k ≤ 255 := by have := HT'.out.lt k; have := HT.out.wd_ok.pow_le; omega
      have HM : Hid (mergeN wd 2 (ent L k) (ent L' k) < 2 ^ wd) := lt_of_most (mergeN_le (most_of_lt (HT.out.lt k)) (most_of_lt (HT'.out.lt k)))
      have HLM := hid hlm
      have HT1 := hid T1
      have HK1 := hid K1
      have hw : IntKind.i64.wrap (((ent L k : Nat) : Int) - ((ent L' k : Nat) : Int)) = ((ent L k : Nat) : Int) - ((ent L' k : Nat) : Int) := IntWalk.i64_in _ (by omega)
      clear T1 K1 Ta Tb hlm
      go_wp2
      go_region
      have hV : (if ent L' k < ent L k then ((ent L k : Nat) : Int) - ((ent L' k : Nat) : Int) else 0) = ((mergeN wd 2 (ent L k) (ent L' k) : Nat) : Int) := by
        have e : mergeN wd 2 (ent L k) (ent L' k) = ent L k - ent L' k := by simp [mergeN]
        rw [e]; clear hw; split <;> omega
      rw [hV]
      have T2 := hid ((HT1.out.store HLM.out HM.out).drewN 1)
      have K2 := hid (HK1.out.trans ((Kp.cell wr ⟨h2, k, none⟩ (.int .i64 ((mergeN wd 2 (ent L k) (ent L' k) : Nat) : Int))).drewN 1) (U := []) (by simp) (by simpa using HH2.out))
      clear hV hw x1 x2 x3 x4 a2 b2 o2
      go_wp2
      go_roundw
      case rel => exact ⟨k + 1, by omega, by go_num, T2.out, K2.out⟩
      case measure => simp [intOf]; omega
    · obtain rfl : k = L.length := by omega
      clear Ta
      go_wp2
      go_ret2
      exact ⟨g2, h2, rfl, T1, K1, HG2.out, HH2.out⟩
theorem r_merge_ok (T : RTab w g h wd L) (T' : RTab w g' h' wd L') (op : Int) (hl : L.length = L'.length) (ho : opB op = true) :
    Calls Try.prog 20 #[.pointer (some ⟨g, 0, none⟩), .pointer (some ⟨g', 0, none⟩), .int .i64 op] w (RMadeP w wd (mergeL wd op L L' L.length)) := by
  rcases op_cases ho with rfl | rfl | rfl
  · exact r_merge_ok0 T T' hl
  · exact r_merge_ok1 T T' hl
  · exact r_merge_ok2 T T' hl
theorem r_merge_bad (T : RTab w g h wd L) (T' : RTab w g' h' wd' L') (op : Int) (hb : (decide (L.length = L'.length) && decide (wd = wd') && opB op) = false) :
    Calls Try.prog 20 #[.pointer (some ⟨g, 0, none⟩), .pointer (some ⟨g', 0, none⟩), .int .i64 op] w fun e w' => e = .returned (.tuple #[.pointer none, .int .i64 1]) ∧ ∃ m, w' = w.drewN m := by
  by_cases hl : L.length = L'.length
  · by_cases hw : wd = wd'
    · rw [decide_eq_true hl, decide_eq_true hw] at hb
      have ho : ¬ (0 ≤ op ∧ op ≤ 2) := of_decide_eq_false (by simpa [opB] using hb)
      by_cases h0 : op < 0
      · exact r_merge_lo T T' op hl hw h0
      · exact r_merge_hi T T' op hl hw (by omega)
    · exact r_merge_wd T T' op hl hw
  · exact r_merge_len T T' op hl
end
end Go.Proofs.Ythhgcjbmnkdgjaa
