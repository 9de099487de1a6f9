/-
  The walk of the law SideRefused. Conditions: its slice reads as calls.
-/
import Derived.Test.YthhgcjbmnkdgjaaMb
import Derived.Test.YthhgcjbmnkdgjaaMc
import Derived.Test.YthhgcjbmnkdgjaaQ
namespace Go.Proofs.Ythhgcjbmnkdgjaa
set_option linter.unusedVariables false
set_option linter.unusedSimpArgs false
open Go.RowKit Go.Deep

section
variable {w W W' : World} {g h g' h' wd : Nat} {L M : List Nat}
/-- A call that returned an error has changed nothing. -/
def Rf (w : World) (g h wd : Nat) (L : List Nat) (err : Int) (w' : World) : Prop := ∃ L', STab w' g h wd L' ∧ Kp [h] w w' ∧ (err = 0 ∨ (err = 1 ∧ L' = L))
theorem rf_set (T : STab w g h wd L) (i v : Int) : Calls Try.prog 31 #[.pointer (some ⟨g, 0, none⟩), .int .i64 i, .int .i64 v] w fun e w' => ∃ err, e = .returned (.int .i64 err) ∧ Rf w g h wd L err w' := by
  refine (set_any T i v).mono ?_
  rintro e w' ⟨rfl, T1, K⟩
  refine ⟨_, rfl, _, T1, K, ?_⟩
  unfold setE setL
  split
  · exact .inl rfl
  · exact .inr ⟨rfl, rfl⟩
theorem rf_fill (T : STab w g h wd L) (i n v : Int) : Calls Try.prog 32 #[.pointer (some ⟨g, 0, none⟩), .int .i64 i, .int .i64 n, .int .i64 v] w fun e w' => ∃ err, e = .returned (.int .i64 err) ∧ Rf w g h wd L err w' := by
  refine (fill_any T i n v).mono ?_
  rintro e w' ⟨rfl, T1, K⟩
  refine ⟨_, rfl, _, T1, K, ?_⟩
  unfold fillE fillL
  split
  · exact .inl rfl
  · exact .inr ⟨rfl, rfl⟩
theorem rf_swap (T : STab w g h wd L) (i o v : Int) : Calls Try.prog 38 #[.pointer (some ⟨g, 0, none⟩), .int .i64 i, .int .i64 o, .int .i64 v] w fun e w' => ∃ (b : Bool) (err : Int), e = .returned (.tuple #[.bool b, .int .i64 err]) ∧ Rf w g h wd L err w' := by
  refine (swap_any T i o v).mono ?_
  rintro e w' ⟨rfl, T1, K⟩
  refine ⟨_, _, rfl, _, T1, K, ?_⟩
  unfold swapE swapL swapB
  rcases swapOk wd L i o v
  · exact .inr ⟨rfl, rfl⟩
  · exact .inl rfl
theorem rf_add (T : STab w g h wd L) (i d : Int) : Calls Try.prog 37 #[.pointer (some ⟨g, 0, none⟩), .int .i64 i, .int .i64 d] w fun e w' => ∃ (b : Int) (err : Int), e = .returned (.tuple #[.int .i64 b, .int .i64 err]) ∧ Rf w g h wd L err w' := by
  refine (add_any T i d).mono ?_
  rintro e w' ⟨rfl, T1, K⟩
  refine ⟨_, _, rfl, _, T1, K, ?_⟩
  unfold addE addL
  split
  · exact .inl rfl
  · exact .inr ⟨rfl, rfl⟩
set_option maxRecDepth 100000 in
set_option maxHeartbeats 1000000 in
theorem refused_great (n wd : Int) (A : Option Addr) (len cap : Nat) (k a b c : Int) (hg : 80 < len) :
    Calls Try.prog 11 #[.int .i64 n, .int .i64 wd, .slice A len cap, .agg #[.int .i64 k, .int .i64 a, .int .i64 b, .int .i64 c]] w (TrueP w) := by
  go_enter Try.func11, Try.ntmps11
  go_wp2_with (first | (go_at_call 28; refine (made_nil_great _ _ _ _ _ hg).mono ?_; rintro e w1 ⟨rfl, K1⟩; have HK := hid K1; clear K1) | (go_at_call 13; refine (great_yes _ _ _ _ hg).mono ?_; rintro e w' ⟨rfl, n1, rfl⟩) | (go_at_call 14; refine (alive_ok _).mono ?_; rintro e w6 ⟨rfl, k6⟩; have HK6 := hid k6; clear k6))
  go_ret
  exact ⟨rfl, ((Kp.new w _).chain (HK.out.drewN _)).chain HK6.out⟩
/-- What is known behind made, with the box of the call. -/
structure RfS (w w1 : World) (g h wd : Nat) (L : List Nat) (cs : Array Value) : Prop where
  tab : STab w1 g h wd L
  box : Blk w1 w.heap.size 33 cs
  kp : Kp [] w w1
  new : w.heap.size ≤ h

set_option maxRecDepth 100000 in
set_option maxHeartbeats 2000000 in
theorem refused_set (n wd : Int) (A : Option Addr) (len cap : Nat) (a b c : Int) (hg : len ≤ 80) (hA : ActsAt w A len) :
    Calls Try.prog 11 #[.int .i64 n, .int .i64 wd, .slice A len cap, .agg #[.int .i64 0, .int .i64 a, .int .i64 b, .int .i64 c]] w (TrueP w) := by
  have HA := hid (hA.kp (Kp.new w (.cells #[.int .i64 0, .int .i64 a, .int .i64 b, .int .i64 c] 33)))
  clear hA
  go_enter Try.func11, Try.ntmps11
  go_wp2_with (fail)
  refine (made_any _ _ _ _ _ HA.out).mono ?_
  rintro e w1 ⟨K1, rfl | ⟨g, h, g', h', wd', L, rfl, B, rfl, rfl, q1, q2, q3, q4⟩⟩
  · have HK := hid K1
    clear K1
    go_wp2_with (first | (go_at_call 13; refine (great_no _ _ _ _ hg).mono ?_; rintro e w' ⟨rfl, n1, rfl⟩) | (go_at_call 14; refine (alive_ok _).mono ?_; rintro e w6 ⟨rfl, k6⟩; have HK6 := hid k6; clear k6))
    go_ret
    exact ⟨rfl, ((Kp.new w _).chain (HK.out.drewN _)).chain HK6.out⟩
  · have HS := hid (RfS.mk B.1 ((Blk.new w 33 _).kp K1 (by simp)) ((Kp.new w _).chain K1) (Nat.le_trans (by simp) q2))
    clear K1 B q1 q2 q3 q4
    go_wp2_with (first | (go_at_call 13; refine (great_no _ _ _ _ hg).mono ?_; rintro e w' ⟨rfl, n1, rfl⟩) | (go_at_call 30; refine (law_entries (w := w1.drewN n1) HS.out.tab).mono ?_; rintro e w2 ⟨v2, rfl, I2, K2⟩; have HI := hid I2; have HK2 := hid K2.from_drewN; have HT2 := hid (HS.out.tab.kp K2.from_drewN (by simp) (by simp)); have HB2 := hid (HS.out.box.kp K2.from_drewN (by simp)); have HN2 : Hid (h < w1.heap.size) := HS.out.tab.h_lt; clear I2 K2; have b0 := HB2.out.cell 0; have b1 := HB2.out.cell 1; have b2 := HB2.out.cell 2; have b3 := HB2.out.cell 3))
    refine (rf_set HT2.out _ _).mono ?_
    rintro e w3 ⟨err, rfl, L3, T3, K3, rfl | ⟨rfl, rfl⟩⟩
    · have HT3 := hid T3
      have HK3 := hid K3
      clear T3 K3
      go_wp2_with (go_at_call 14; refine (alive_ok _).mono ?_; rintro e w6 ⟨rfl, k6⟩; have HK6 := hid k6; clear k6)
      go_ret
      exact ⟨rfl, (((HS.out.kp.chain HK2.out).trans HK3.out (by simp) (by simpa using HS.out.new)).chain HK6.out)⟩
    · have HT3 := hid T3
      have HK3 := hid K3
      have HI3 := hid (HI.out.kp K3 (by simpa using HN2.out))
      have HL := hid T3.le
      clear T3 K3
      go_wp2_with (first | (go_at_call 30; refine (law_entries HT3.out).mono ?_; rintro e w4 ⟨v4, rfl, I4, K4⟩; have HI4 := hid I4.at_; have HK4 := hid K4; have HI5 := hid (HI3.out.kp K4 (by simp)).at_; clear I4 K4) | (go_at_call 39; refine (ints_yes HI4.out HI5.out HL.out).mono ?_; rintro e w' ⟨rfl, n9, rfl⟩) | (go_at_call 14; refine (alive_ok _).mono ?_; rintro e w6 ⟨rfl, k6⟩; have HK6 := hid k6; clear k6))
      go_ret
      exact ⟨rfl, ((((HS.out.kp.chain HK2.out).trans HK3.out (U := []) (by simp) (by simpa using HS.out.new)).chain HK4.out).chain (HK6.out.from_drewN))⟩

set_option maxRecDepth 100000 in
set_option maxHeartbeats 2000000 in
theorem refused_fill (n wd : Int) (A : Option Addr) (len cap : Nat) (a b c : Int) (hg : len ≤ 80) (hA : ActsAt w A len) :
    Calls Try.prog 11 #[.int .i64 n, .int .i64 wd, .slice A len cap, .agg #[.int .i64 1, .int .i64 a, .int .i64 b, .int .i64 c]] w (TrueP w) := by
  have HA := hid (hA.kp (Kp.new w (.cells #[.int .i64 1, .int .i64 a, .int .i64 b, .int .i64 c] 33)))
  clear hA
  go_enter Try.func11, Try.ntmps11
  go_wp2_with (fail)
  refine (made_any _ _ _ _ _ HA.out).mono ?_
  rintro e w1 ⟨K1, rfl | ⟨g, h, g', h', wd', L, rfl, B, rfl, rfl, q1, q2, q3, q4⟩⟩
  · have HK := hid K1
    clear K1
    go_wp2_with (first | (go_at_call 13; refine (great_no _ _ _ _ hg).mono ?_; rintro e w' ⟨rfl, n1, rfl⟩) | (go_at_call 14; refine (alive_ok _).mono ?_; rintro e w6 ⟨rfl, k6⟩; have HK6 := hid k6; clear k6))
    go_ret
    exact ⟨rfl, ((Kp.new w _).chain (HK.out.drewN _)).chain HK6.out⟩
  · have HS := hid (RfS.mk B.1 ((Blk.new w 33 _).kp K1 (by simp)) ((Kp.new w _).chain K1) (Nat.le_trans (by simp) q2))
    clear K1 B q1 q2 q3 q4
    go_wp2_with (first | (go_at_call 13; refine (great_no _ _ _ _ hg).mono ?_; rintro e w' ⟨rfl, n1, rfl⟩) | (go_at_call 30; refine (law_entries (w := w1.drewN n1) HS.out.tab).mono ?_; rintro e w2 ⟨v2, rfl, I2, K2⟩; have HI := hid I2; have HK2 := hid K2.from_drewN; have HT2 := hid (HS.out.tab.kp K2.from_drewN (by simp) (by simp)); have HB2 := hid (HS.out.box.kp K2.from_drewN (by simp)); have HN2 : Hid (h < w1.heap.size) := HS.out.tab.h_lt; clear I2 K2; have b0 := HB2.out.cell 0; have b1 := HB2.out.cell 1; have b2 := HB2.out.cell 2; have b3 := HB2.out.cell 3))
    refine (rf_fill HT2.out _ _ _).mono ?_
    rintro e w3 ⟨err, rfl, L3, T3, K3, rfl | ⟨rfl, rfl⟩⟩
    · have HT3 := hid T3
      have HK3 := hid K3
      clear T3 K3
      go_wp2_with (go_at_call 14; refine (alive_ok _).mono ?_; rintro e w6 ⟨rfl, k6⟩; have HK6 := hid k6; clear k6)
      go_ret
      exact ⟨rfl, (((HS.out.kp.chain HK2.out).trans HK3.out (by simp) (by simpa using HS.out.new)).chain HK6.out)⟩
    · have HT3 := hid T3
      have HK3 := hid K3
      have HI3 := hid (HI.out.kp K3 (by simpa using HN2.out))
      have HL := hid T3.le
      clear T3 K3
      go_wp2_with (first | (go_at_call 30; refine (law_entries HT3.out).mono ?_; rintro e w4 ⟨v4, rfl, I4, K4⟩; have HI4 := hid I4.at_; have HK4 := hid K4; have HI5 := hid (HI3.out.kp K4 (by simp)).at_; clear I4 K4) | (go_at_call 39; refine (ints_yes HI4.out HI5.out HL.out).mono ?_; rintro e w' ⟨rfl, n9, rfl⟩) | (go_at_call 14; refine (alive_ok _).mono ?_; rintro e w6 ⟨rfl, k6⟩; have HK6 := hid k6; clear k6))
      go_ret
      exact ⟨rfl, ((((HS.out.kp.chain HK2.out).trans HK3.out (U := []) (by simp) (by simpa using HS.out.new)).chain HK4.out).chain (HK6.out.from_drewN))⟩

set_option maxRecDepth 100000 in
set_option maxHeartbeats 2000000 in
theorem refused_swap (n wd : Int) (A : Option Addr) (len cap : Nat) (a b c : Int) (hg : len ≤ 80) (hA : ActsAt w A len) :
    Calls Try.prog 11 #[.int .i64 n, .int .i64 wd, .slice A len cap, .agg #[.int .i64 2, .int .i64 a, .int .i64 b, .int .i64 c]] w (TrueP w) := by
  have HA := hid (hA.kp (Kp.new w (.cells #[.int .i64 2, .int .i64 a, .int .i64 b, .int .i64 c] 33)))
  clear hA
  go_enter Try.func11, Try.ntmps11
  go_wp2_with (fail)
  refine (made_any _ _ _ _ _ HA.out).mono ?_
  rintro e w1 ⟨K1, rfl | ⟨g, h, g', h', wd', L, rfl, B, rfl, rfl, q1, q2, q3, q4⟩⟩
  · have HK := hid K1
    clear K1
    go_wp2_with (first | (go_at_call 13; refine (great_no _ _ _ _ hg).mono ?_; rintro e w' ⟨rfl, n1, rfl⟩) | (go_at_call 14; refine (alive_ok _).mono ?_; rintro e w6 ⟨rfl, k6⟩; have HK6 := hid k6; clear k6))
    go_ret
    exact ⟨rfl, ((Kp.new w _).chain (HK.out.drewN _)).chain HK6.out⟩
  · have HS := hid (RfS.mk B.1 ((Blk.new w 33 _).kp K1 (by simp)) ((Kp.new w _).chain K1) (Nat.le_trans (by simp) q2))
    clear K1 B q1 q2 q3 q4
    go_wp2_with (first | (go_at_call 13; refine (great_no _ _ _ _ hg).mono ?_; rintro e w' ⟨rfl, n1, rfl⟩) | (go_at_call 30; refine (law_entries (w := w1.drewN n1) HS.out.tab).mono ?_; rintro e w2 ⟨v2, rfl, I2, K2⟩; have HI := hid I2; have HK2 := hid K2.from_drewN; have HT2 := hid (HS.out.tab.kp K2.from_drewN (by simp) (by simp)); have HB2 := hid (HS.out.box.kp K2.from_drewN (by simp)); have HN2 : Hid (h < w1.heap.size) := HS.out.tab.h_lt; clear I2 K2; have b0 := HB2.out.cell 0; have b1 := HB2.out.cell 1; have b2 := HB2.out.cell 2; have b3 := HB2.out.cell 3))
    refine (rf_swap HT2.out _ _ _).mono ?_
    rintro e w3 ⟨b0, err, rfl, L3, T3, K3, rfl | ⟨rfl, rfl⟩⟩
    · have HT3 := hid T3
      have HK3 := hid K3
      clear T3 K3
      go_wp2_with (go_at_call 14; refine (alive_ok _).mono ?_; rintro e w6 ⟨rfl, k6⟩; have HK6 := hid k6; clear k6)
      go_ret
      exact ⟨rfl, (((HS.out.kp.chain HK2.out).trans HK3.out (by simp) (by simpa using HS.out.new)).chain HK6.out)⟩
    · have HT3 := hid T3
      have HK3 := hid K3
      have HI3 := hid (HI.out.kp K3 (by simpa using HN2.out))
      have HL := hid T3.le
      clear T3 K3
      go_wp2_with (first | (go_at_call 30; refine (law_entries HT3.out).mono ?_; rintro e w4 ⟨v4, rfl, I4, K4⟩; have HI4 := hid I4.at_; have HK4 := hid K4; have HI5 := hid (HI3.out.kp K4 (by simp)).at_; clear I4 K4) | (go_at_call 39; refine (ints_yes HI4.out HI5.out HL.out).mono ?_; rintro e w' ⟨rfl, n9, rfl⟩) | (go_at_call 14; refine (alive_ok _).mono ?_; rintro e w6 ⟨rfl, k6⟩; have HK6 := hid k6; clear k6))
      go_ret
      exact ⟨rfl, ((((HS.out.kp.chain HK2.out).trans HK3.out (U := []) (by simp) (by simpa using HS.out.new)).chain HK4.out).chain (HK6.out.from_drewN))⟩

set_option maxRecDepth 100000 in
set_option maxHeartbeats 2000000 in
theorem refused_add (n wd : Int) (A : Option Addr) (len cap : Nat) (a b c : Int) (hg : len ≤ 80) (hA : ActsAt w A len) :
    Calls Try.prog 11 #[.int .i64 n, .int .i64 wd, .slice A len cap, .agg #[.int .i64 3, .int .i64 a, .int .i64 b, .int .i64 c]] w (TrueP w) := by
  have HA := hid (hA.kp (Kp.new w (.cells #[.int .i64 3, .int .i64 a, .int .i64 b, .int .i64 c] 33)))
  clear hA
  go_enter Try.func11, Try.ntmps11
  go_wp2_with (fail)
  refine (made_any _ _ _ _ _ HA.out).mono ?_
  rintro e w1 ⟨K1, rfl | ⟨g, h, g', h', wd', L, rfl, B, rfl, rfl, q1, q2, q3, q4⟩⟩
  · have HK := hid K1
    clear K1
    go_wp2_with (first | (go_at_call 13; refine (great_no _ _ _ _ hg).mono ?_; rintro e w' ⟨rfl, n1, rfl⟩) | (go_at_call 14; refine (alive_ok _).mono ?_; rintro e w6 ⟨rfl, k6⟩; have HK6 := hid k6; clear k6))
    go_ret
    exact ⟨rfl, ((Kp.new w _).chain (HK.out.drewN _)).chain HK6.out⟩
  · have HS := hid (RfS.mk B.1 ((Blk.new w 33 _).kp K1 (by simp)) ((Kp.new w _).chain K1) (Nat.le_trans (by simp) q2))
    clear K1 B q1 q2 q3 q4
    go_wp2_with (first | (go_at_call 13; refine (great_no _ _ _ _ hg).mono ?_; rintro e w' ⟨rfl, n1, rfl⟩) | (go_at_call 30; refine (law_entries (w := w1.drewN n1) HS.out.tab).mono ?_; rintro e w2 ⟨v2, rfl, I2, K2⟩; have HI := hid I2; have HK2 := hid K2.from_drewN; have HT2 := hid (HS.out.tab.kp K2.from_drewN (by simp) (by simp)); have HB2 := hid (HS.out.box.kp K2.from_drewN (by simp)); have HN2 : Hid (h < w1.heap.size) := HS.out.tab.h_lt; clear I2 K2; have b0 := HB2.out.cell 0; have b1 := HB2.out.cell 1; have b2 := HB2.out.cell 2; have b3 := HB2.out.cell 3))
    refine (rf_add HT2.out _ _).mono ?_
    rintro e w3 ⟨b0, err, rfl, L3, T3, K3, rfl | ⟨rfl, rfl⟩⟩
    · have HT3 := hid T3
      have HK3 := hid K3
      clear T3 K3
      go_wp2_with (go_at_call 14; refine (alive_ok _).mono ?_; rintro e w6 ⟨rfl, k6⟩; have HK6 := hid k6; clear k6)
      go_ret
      exact ⟨rfl, (((HS.out.kp.chain HK2.out).trans HK3.out (by simp) (by simpa using HS.out.new)).chain HK6.out)⟩
    · have HT3 := hid T3
      have HK3 := hid K3
      have HI3 := hid (HI.out.kp K3 (by simpa using HN2.out))
      have HL := hid T3.le
      clear T3 K3
      go_wp2_with (first | (go_at_call 30; refine (law_entries HT3.out).mono ?_; rintro e w4 ⟨v4, rfl, I4, K4⟩; have HI4 := hid I4.at_; have HK4 := hid K4; have HI5 := hid (HI3.out.kp K4 (by simp)).at_; clear I4 K4) | (go_at_call 39; refine (ints_yes HI4.out HI5.out HL.out).mono ?_; rintro e w' ⟨rfl, n9, rfl⟩) | (go_at_call 14; refine (alive_ok _).mono ?_; rintro e w6 ⟨rfl, k6⟩; have HK6 := hid k6; clear k6))
      go_ret
      exact ⟨rfl, ((((HS.out.kp.chain HK2.out).trans HK3.out (U := []) (by simp) (by simpa using HS.out.new)).chain HK4.out).chain (HK6.out.from_drewN))⟩

set_option maxRecDepth 100000 in
set_option maxHeartbeats 2000000 in
theorem refused_other (n wd : Int) (A : Option Addr) (len cap : Nat) (k a b c : Int) (hg : len ≤ 80) (hk : ¬ (0 ≤ k ∧ k ≤ 3)) (hA : ActsAt w A len) :
    Calls Try.prog 11 #[.int .i64 n, .int .i64 wd, .slice A len cap, .agg #[.int .i64 k, .int .i64 a, .int .i64 b, .int .i64 c]] w (TrueP w) := by
  have HA := hid (hA.kp (Kp.new w (.cells #[.int .i64 k, .int .i64 a, .int .i64 b, .int .i64 c] 33)))
  clear hA
  have e0 : (k == 0) = false := beq_eq_false_iff_ne.2 (by omega)
  have e1 : (k == 1) = false := beq_eq_false_iff_ne.2 (by omega)
  have e2 : (k == 2) = false := beq_eq_false_iff_ne.2 (by omega)
  have e3 : (k == 3) = false := beq_eq_false_iff_ne.2 (by omega)
  clear hk
  go_enter Try.func11, Try.ntmps11
  go_wp2_with (fail)
  refine (made_any _ _ _ _ _ HA.out).mono ?_
  rintro e w1 ⟨K1, rfl | ⟨g, h, g', h', wd', L, rfl, B, rfl, rfl, q1, q2, q3, q4⟩⟩
  · have HK := hid K1
    clear K1
    go_wp2_with (first | (go_at_call 13; refine (great_no _ _ _ _ hg).mono ?_; rintro e w' ⟨rfl, n1, rfl⟩) | (go_at_call 14; refine (alive_ok _).mono ?_; rintro e w6 ⟨rfl, k6⟩; have HK6 := hid k6; clear k6))
    go_ret
    exact ⟨rfl, ((Kp.new w _).chain (HK.out.drewN _)).chain HK6.out⟩
  · have HS := hid (RfS.mk B.1 ((Blk.new w 33 _).kp K1 (by simp)) ((Kp.new w _).chain K1) (Nat.le_trans (by simp) q2))
    clear K1 B q1 q2 q3 q4
    go_wp2_with (first | (go_at_call 13; refine (great_no _ _ _ _ hg).mono ?_; rintro e w' ⟨rfl, n1, rfl⟩) | (go_at_call 30; refine (law_entries (w := w1.drewN n1) HS.out.tab).mono ?_; rintro e w2 ⟨v2, rfl, I2, K2⟩; have HI := hid I2; have HK2 := hid K2.from_drewN; have HT2 := hid (HS.out.tab.kp K2.from_drewN (by simp) (by simp)); have HB2 := hid (HS.out.box.kp K2.from_drewN (by simp)); have HN2 : Hid (h < w1.heap.size) := HS.out.tab.h_lt; clear I2 K2; have b0 := HB2.out.cell 0; have b1 := HB2.out.cell 1; have b2 := HB2.out.cell 2; have b3 := HB2.out.cell 3))
    go_wp2_with (go_at_call 14; refine (alive_ok _).mono ?_; rintro e w6 ⟨rfl, k6⟩; have HK6 := hid k6; clear k6)
    go_ret
    exact ⟨rfl, (HS.out.kp.chain HK2.out).chain HK6.out⟩

theorem refused_ok (n wd : Int) (A : Option Addr) (len cap : Nat) (k a b c : Int) (hA : ActsAt w A len) :
    Calls Try.prog 11 #[.int .i64 n, .int .i64 wd, .slice A len cap, .agg #[.int .i64 k, .int .i64 a, .int .i64 b, .int .i64 c]] w (TrueP w) := by
  by_cases hg : 80 < len
  · exact refused_great n wd A len cap k a b c hg
  have hg : len ≤ 80 := by omega
  by_cases hk : 0 ≤ k ∧ k ≤ 3
  · have hk6 : k = 0 ∨ k = 1 ∨ k = 2 ∨ k = 3 := by omega
    rcases hk6 with rfl | rfl | rfl | rfl
    · exact refused_set n wd A len cap a b c hg hA
    · exact refused_fill n wd A len cap a b c hg hA
    · exact refused_swap n wd A len cap a b c hg hA
    · exact refused_add n wd A len cap a b c hg hA
  · exact refused_other n wd A len cap k a b c hg hk hA
end
end Go.Proofs.Ythhgcjbmnkdgjaa
