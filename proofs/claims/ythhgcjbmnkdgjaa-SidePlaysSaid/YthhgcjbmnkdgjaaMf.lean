/-
  The walk of the law SideMerged. Conditions: its slices read as calls.
-/
import Derived.Test.YthhgcjbmnkdgjaaMb
namespace Go.Proofs.Ythhgcjbmnkdgjaa
set_option linter.unusedVariables false
set_option linter.unusedSimpArgs false
open Go.RowKit Go.Deep

theorem mergeL_at (wd : Nat) (op : Int) (L M : List Nat) (n : Nat) (hn : n ≤ L.length) (i : Nat) : ent (mergeL wd op L M n) i = if i < n then mergeN wd op (ent L i) (ent M i) else ent L i := by
  induction n with
  | zero => simp [mergeL]
  | succ n ih =>
    rw [mergeL, ent_set _ _ _ _ (by rw [mergeL_length]; omega), ih (by omega)]
    by_cases h : i = n
    · subst h; simp
    · rw [if_neg h]
      by_cases h2 : i < n
      · rw [if_pos h2, if_pos (by omega)]
      · rw [if_neg h2, if_neg (by omega)]
theorem list_ext {L M : List Nat} (hl : L.length = M.length) (h : ∀ i, i < L.length → ent L i = ent M i) : L = M := by
  apply List.ext_getElem hl
  intro i h1 h2
  have := h i h1
  unfold ent at this
  simpa [List.getD_eq_getElem?_getD, h1, h2] using this
theorem mergeN_comm (wd : Nat) (op : Int) (x y : Nat) (ho : op = 0 ∨ op = 1) : mergeN wd op x y = mergeN wd op y x := by
  unfold mergeN
  rcases ho with rfl | rfl
  · simp; omega
  · simp; omega
theorem mergeL_comm (wd : Nat) (op : Int) (L M : List Nat) (hl : L.length = M.length) (ho : op = 0 ∨ op = 1) : mergeL wd op L M L.length = mergeL wd op M L M.length := by
  refine list_ext (by simp [hl]) fun i hi => ?_
  rw [mergeL_length] at hi
  rw [mergeL_at _ _ _ _ _ (Nat.le_refl _), mergeL_at _ _ _ _ _ (Nat.le_refl _), if_pos hi, if_pos (by omega), mergeN_comm _ _ _ _ ho]
theorem mergeL_self (wd : Nat) (op : Int) (L : List Nat) (ho : op = 0 ∨ op = 1) : mergeL wd op L L L.length = L := by
  refine list_ext (by simp) fun i hi => ?_
  rw [mergeL_length] at hi
  rw [mergeL_at _ _ _ _ _ (Nat.le_refl _), if_pos hi]
  unfold mergeN
  rcases ho with rfl | rfl <;> simp
theorem mergeL_two (wd : Nat) (L : List Nat) (i : Nat) : ent (mergeL wd 2 L L L.length) i = 0 := by
  rw [mergeL_at _ _ _ _ _ (Nat.le_refl _)]
  split
  · unfold mergeN; simp
  · rename_i h
    unfold ent
    rw [List.getD_eq_getElem?_getD, List.getElem?_eq_none (by omega)]
    rfl
theorem cnt_all {p : Nat → Bool} {n : Nat} (h : ∀ i, p i = true) : cntN p n = n := by
  induction n with
  | zero => rfl
  | succ n ih => simp [cntN, h, ih]
theorem mergeL_cnt (wd : Nat) (L : List Nat) : cntN (isV (mergeL wd 2 L L L.length) 0) (mergeL wd 2 L L L.length).length = L.length := by
  rw [cnt_all fun i => isV_yes (by rw [mergeL_two]; rfl), mergeL_length]
section
variable {w W W' : World} {g h g' h' wd : Nat} {L M : List Nat}
/-- What made returns, whatever it is. -/
def SomeP (w : World) (e : Ending) (w' : World) : Prop := ∃ p q : Value, e = .returned (.tuple #[p, q]) ∧ Kp [] w w'
theorem made_some (n wd : Int) (A : Option Addr) (len cap : Nat) (hA : ActsAt w A len) : Calls Try.prog 28 #[.int .i64 n, .int .i64 wd, .slice A len cap] w (SomeP w) := by
  refine (made_any n wd A len cap hA).mono ?_
  rintro e w1 ⟨K1, rfl | ⟨g, h, g', h', wd', L, rfl, B, rfl, rfl, q1, q2, q3, q4⟩⟩
  · exact ⟨_, _, rfl, K1⟩
  · exact ⟨_, _, rfl, K1⟩

set_option maxRecDepth 100000 in
set_option maxHeartbeats 1000000 in
theorem merged_great1 (n wd : Int) (A : Option Addr) (len cap : Nat) (A2 : Option Addr) (len2 cap2 : Nat) (op : Int) (hg : 80 < len) (hA : ActsAt w A len) (hA2 : ActsAt w A2 len2) :
    Calls Try.prog 10 #[.int .i64 n, .int .i64 wd, .slice A len cap, .slice A2 len2 cap2, .int .i64 op] w (TrueP w) := by
  have HA := hid hA
  have HA2 := hid hA2
  clear hA hA2
  go_enter Try.func10, Try.ntmps10
  go_wp2_with (first | ((go_at_call 28; with_reducible refine (made_some _ _ A len cap HA.out).mono ?_); rintro e w1 ⟨p, q, rfl, K1⟩; have HK := hid K1; clear K1) | ((go_at_call 28; with_reducible refine (made_some _ _ A2 len2 cap2 (HA2.out.kp HK.out)).mono ?_); rintro e w2 ⟨p2, q2, rfl, K2⟩; have HK2 := hid K2; clear K2) | (go_at_call 13; refine (great_yes _ _ _ _ hg).mono ?_; rintro e w' ⟨rfl, n1, rfl⟩) | (go_at_call 14; refine (alive_ok _).mono ?_; rintro e w6 ⟨rfl, k6⟩; have HK6 := hid k6; clear k6))
  go_ret
  exact ⟨rfl, ((HK.out.chain HK2.out).drewN _).chain HK6.out⟩

set_option maxRecDepth 100000 in
set_option maxHeartbeats 1000000 in
theorem merged_great2 (n wd : Int) (A : Option Addr) (len cap : Nat) (A2 : Option Addr) (len2 cap2 : Nat) (op : Int) (hg : len ≤ 80) (hg2 : 80 < len2) (hA : ActsAt w A len) (hA2 : ActsAt w A2 len2) :
    Calls Try.prog 10 #[.int .i64 n, .int .i64 wd, .slice A len cap, .slice A2 len2 cap2, .int .i64 op] w (TrueP w) := by
  have HA := hid hA
  have HA2 := hid hA2
  clear hA hA2
  go_enter Try.func10, Try.ntmps10
  go_wp2_with (first | ((go_at_call 28; with_reducible refine (made_some _ _ A len cap HA.out).mono ?_); rintro e w1 ⟨p, q, rfl, K1⟩; have HK := hid K1; clear K1) | ((go_at_call 28; with_reducible refine (made_some _ _ A2 len2 cap2 (HA2.out.kp HK.out)).mono ?_); rintro e w2 ⟨p2, q2, rfl, K2⟩; have HK2 := hid K2; clear K2) | ((go_at_call 13; with_reducible refine (great_no A _ _ _ hg).mono ?_); rintro e w' ⟨rfl, n1, rfl⟩) | ((go_at_call 13; with_reducible refine (great_yes A2 _ _ _ hg2).mono ?_); rintro e w' ⟨rfl, n2, rfl⟩) | (go_at_call 14; refine (alive_ok _).mono ?_; rintro e w6 ⟨rfl, k6⟩; have HK6 := hid k6; clear k6))
  go_ret
  exact ⟨rfl, ((HK.out.chain HK2.out).drewN _).chain HK6.out⟩

set_option maxRecDepth 100000 in
set_option maxHeartbeats 2000000 in
theorem merged_bad (n wd : Int) (A : Option Addr) (len cap : Nat) (A2 : Option Addr) (len2 cap2 : Nat) (op : Int) (hg : len ≤ 80) (hg2 : len2 ≤ 80) (ho : op < 0 ∨ 2 < op) (hA : ActsAt w A len) (hA2 : ActsAt w A2 len2) :
    Calls Try.prog 10 #[.int .i64 n, .int .i64 wd, .slice A len cap, .slice A2 len2 cap2, .int .i64 op] w (TrueP w) := by
  have HA := hid hA
  have HA2 := hid hA2
  clear hA hA2
  rcases ho with ho | ho
  all_goals
    go_enter Try.func10, Try.ntmps10
    go_wp2_with (fail)
    refine (made_any _ _ _ _ _ HA.out).mono ?_
    rintro e w1 ⟨K1, rfl | ⟨g, h, g', h', wd', L, rfl, B, e1, e2, q1, q2, q3, q4⟩⟩
    all_goals
      have HK := hid K1
      clear K1
      go_wp2_with (fail)
      refine (made_any _ _ _ _ _ (HA2.out.kp HK.out)).mono ?_
      rintro e w2 ⟨K2, rfl | ⟨g2, h2, g2', h2', wd2, L2, rfl, B2, e3, e4, p1, p2, p3, p4⟩⟩
      all_goals
        have HK2 := hid K2
        clear K2
        try clear e1 e2
        try clear e3 e4
        go_wp2_with (first | ((go_at_call 13; with_reducible refine (great_no A _ _ _ hg).mono ?_); rintro e w' ⟨rfl, n1, rfl⟩) | ((go_at_call 13; with_reducible refine (great_no A2 _ _ _ hg2).mono ?_); rintro e w' ⟨rfl, n2, rfl⟩) | (go_at_call 14; refine (alive_ok _).mono ?_; rintro e w6 ⟨rfl, k6⟩; have HK6 := hid k6; clear k6))
        go_ret
        exact ⟨rfl, ((HK.out.chain HK2.out).drewN _).chain HK6.out⟩
/-- Two tables of one shape. -/
structure Two (w W : World) (g h g2 h2 wd : Nat) (L M : List Nat) : Prop where
  a : STab W g h wd L
  b : STab W g2 h2 wd M
  len : L.length = M.length
  kp : Kp [] w W
theorem Two.next {g2 h2 : Nat} (t : Two w W g h g2 h2 wd L M) (k : Kp [] W W') : Two w W' g h g2 h2 wd L M := ⟨t.a.kp k (by simp) (by simp), t.b.kp k (by simp) (by simp), t.len, t.kp.chain k⟩
theorem Two.drewN {g2 h2 : Nat} (t : Two w W g h g2 h2 wd L M) (n : Nat) : Two w (W.drewN n) g h g2 h2 wd L M := ⟨t.a, t.b, t.len, t.kp.drewN n⟩
theorem sameB_self (wd : Nat) (L : List Nat) : sameB wd L wd L = true := by simp [sameB]
theorem same_eq (T : STab W g h wd L) (T' : STab W g' h' wd M) (e : L = M) : Calls Try.prog 27 #[.pointer (some ⟨g, 0, none⟩), .pointer (some ⟨g', 0, none⟩)] W fun e w' => e = .returned (.bool true) ∧ ∃ m, w' = W.drewN m := by
  subst e
  have := same_any T T'
  rw [sameB_self] at this
  exact this

set_option maxRecDepth 100000 in
set_option maxHeartbeats 4000000 in
theorem merged_op0 (n wd : Int) (A : Option Addr) (len cap : Nat) (A2 : Option Addr) (len2 cap2 : Nat) (hg : len ≤ 80) (hg2 : len2 ≤ 80) (hA : ActsAt w A len) (hA2 : ActsAt w A2 len2) :
    Calls Try.prog 10 #[.int .i64 n, .int .i64 wd, .slice A len cap, .slice A2 len2 cap2, .int .i64 0] w (TrueP w) := by
  have HA := hid hA
  have HA2 := hid hA2
  clear hA hA2
  go_enter Try.func10, Try.ntmps10
  go_wp2_with (fail)
  refine (made_any _ _ _ _ _ HA.out).mono ?_
  rintro e w1 ⟨K1, rfl | ⟨g, h, g', h', wd', L, rfl, B, rfl, rfl, q1, q2, q3, q4⟩⟩
  · have HK := hid K1
    clear K1
    go_wp2_with (first | ((go_at_call 28; with_reducible refine (made_some _ _ A2 len2 cap2 (HA2.out.kp HK.out)).mono ?_); rintro e w2 ⟨p2, q2, rfl, K2⟩; have HK2 := hid K2; clear K2) | ((go_at_call 13; with_reducible refine (great_no A _ _ _ hg).mono ?_); rintro e w' ⟨rfl, n1, rfl⟩) | ((go_at_call 13; with_reducible refine (great_no A2 _ _ _ hg2).mono ?_); rintro e w' ⟨rfl, n2, rfl⟩) | (go_at_call 14; refine (alive_ok _).mono ?_; rintro e w6 ⟨rfl, k6⟩; have HK6 := hid k6; clear k6))
    go_ret
    exact ⟨rfl, ((HK.out.chain HK2.out).drewN _).chain HK6.out⟩
  · have HK := hid K1
    have HB := hid B
    clear K1 B q1 q2 q3 q4
    go_wp2_with (fail)
    refine (made_any _ _ _ _ _ (HA2.out.kp HK.out)).mono ?_
    rintro e w2 ⟨K2, rfl | ⟨g2, h2, g2', h2', wd2, L2, rfl, B2, e3, e4, p1, p2, p3, p4⟩⟩
    · have HK2 := hid K2
      clear K2
      go_wp2_with (first | ((go_at_call 13; with_reducible refine (great_no A _ _ _ hg).mono ?_); rintro e w' ⟨rfl, n1, rfl⟩) | ((go_at_call 13; with_reducible refine (great_no A2 _ _ _ hg2).mono ?_); rintro e w' ⟨rfl, n2, rfl⟩) | (go_at_call 14; refine (alive_ok _).mono ?_; rintro e w6 ⟨rfl, k6⟩; have HK6 := hid k6; clear k6))
      go_ret
      exact ⟨rfl, ((HK.out.chain HK2.out).drewN _).chain HK6.out⟩
    · obtain rfl : wd' = wd2 := by omega
      have HT := hid (Two.mk (HB.out.1.kp K2 (by simp) (by simp)) B2.1 (show L.length = L2.length by omega) (HK.out.chain K2))
      clear K2 B2 e3 e4 p1 p2 p3 p4 HB HK
      go_wp2_with (first | ((go_at_call 13; with_reducible refine (great_no A _ _ _ hg).mono ?_); rintro e w' ⟨rfl, n1, rfl⟩) | ((go_at_call 13; with_reducible refine (great_no A2 _ _ _ hg2).mono ?_); rintro e w' ⟨rfl, n2, rfl⟩) | ((go_at_call 19; with_reducible refine (merge_ok (HT.out.drewN _).a (HT.out.drewN _).b 0 HT.out.len rfl).mono ?_); rintro e w3 ⟨gx, hx, rfl, Tx, Kx, x1, x2⟩; have H1 := hid ((HT.out.drewN _).next Kx); have X := hid Tx; clear Tx Kx x1 x2)  | ((go_at_call 19; with_reducible refine (merge_ok H1.out.b H1.out.a 0 H1.out.len.symm rfl).mono ?_); rintro e w4 ⟨gy, hy, rfl, Ty, Ky, y1, y2⟩; have H2 := hid (H1.out.next Ky); have Y := hid (And.intro Ty Ky); clear Ty Ky y1 y2)  | ((go_at_call 19; with_reducible refine (merge_ok H2.out.a H2.out.a 0 rfl rfl).mono ?_); rintro e w5 ⟨gz, hz, rfl, Tz, Kz, z1, z2⟩; have H3 := hid (H2.out.next Kz); have Z := hid (And.intro Tz Kz); clear Tz Kz z1 z2)  | ((go_at_call 27; with_reducible refine (same_eq ((X.out.kp Y.out.2 (by simp) (by simp)).kp Z.out.2 (by simp) (by simp)) (Y.out.1.kp Z.out.2 (by simp) (by simp)) (mergeL_comm wd' 0 L L2 HT.out.len (by omega))).mono ?_); rintro e w' ⟨rfl, n5, rfl⟩) | ((go_at_call 27; with_reducible refine (same_eq (Z.out.1.drewN _) (H3.out.drewN _).a (mergeL_self wd' 0 L (by omega))).mono ?_); rintro e w' ⟨rfl, n6, rfl⟩) | (go_at_call 14; refine (alive_ok _).mono ?_; rintro e w6 ⟨rfl, k6⟩; have HK6 := hid k6; clear k6))
      go_ret
      exact ⟨rfl, (H3.out.kp.drewN _).chain HK6.out⟩

set_option maxRecDepth 100000 in
set_option maxHeartbeats 4000000 in
theorem merged_op1 (n wd : Int) (A : Option Addr) (len cap : Nat) (A2 : Option Addr) (len2 cap2 : Nat) (hg : len ≤ 80) (hg2 : len2 ≤ 80) (hA : ActsAt w A len) (hA2 : ActsAt w A2 len2) :
    Calls Try.prog 10 #[.int .i64 n, .int .i64 wd, .slice A len cap, .slice A2 len2 cap2, .int .i64 1] w (TrueP w) := by
  have HA := hid hA
  have HA2 := hid hA2
  clear hA hA2
  go_enter Try.func10, Try.ntmps10
  go_wp2_with (fail)
  refine (made_any _ _ _ _ _ HA.out).mono ?_
  rintro e w1 ⟨K1, rfl | ⟨g, h, g', h', wd', L, rfl, B, rfl, rfl, q1, q2, q3, q4⟩⟩
  · have HK := hid K1
    clear K1
    go_wp2_with (first | ((go_at_call 28; with_reducible refine (made_some _ _ A2 len2 cap2 (HA2.out.kp HK.out)).mono ?_); rintro e w2 ⟨p2, q2, rfl, K2⟩; have HK2 := hid K2; clear K2) | ((go_at_call 13; with_reducible refine (great_no A _ _ _ hg).mono ?_); rintro e w' ⟨rfl, n1, rfl⟩) | ((go_at_call 13; with_reducible refine (great_no A2 _ _ _ hg2).mono ?_); rintro e w' ⟨rfl, n2, rfl⟩) | (go_at_call 14; refine (alive_ok _).mono ?_; rintro e w6 ⟨rfl, k6⟩; have HK6 := hid k6; clear k6))
    go_ret
    exact ⟨rfl, ((HK.out.chain HK2.out).drewN _).chain HK6.out⟩
  · have HK := hid K1
    have HB := hid B
    clear K1 B q1 q2 q3 q4
    go_wp2_with (fail)
    refine (made_any _ _ _ _ _ (HA2.out.kp HK.out)).mono ?_
    rintro e w2 ⟨K2, rfl | ⟨g2, h2, g2', h2', wd2, L2, rfl, B2, e3, e4, p1, p2, p3, p4⟩⟩
    · have HK2 := hid K2
      clear K2
      go_wp2_with (first | ((go_at_call 13; with_reducible refine (great_no A _ _ _ hg).mono ?_); rintro e w' ⟨rfl, n1, rfl⟩) | ((go_at_call 13; with_reducible refine (great_no A2 _ _ _ hg2).mono ?_); rintro e w' ⟨rfl, n2, rfl⟩) | (go_at_call 14; refine (alive_ok _).mono ?_; rintro e w6 ⟨rfl, k6⟩; have HK6 := hid k6; clear k6))
      go_ret
      exact ⟨rfl, ((HK.out.chain HK2.out).drewN _).chain HK6.out⟩
    · obtain rfl : wd' = wd2 := by omega
      have HT := hid (Two.mk (HB.out.1.kp K2 (by simp) (by simp)) B2.1 (show L.length = L2.length by omega) (HK.out.chain K2))
      clear K2 B2 e3 e4 p1 p2 p3 p4 HB HK
      go_wp2_with (first | ((go_at_call 13; with_reducible refine (great_no A _ _ _ hg).mono ?_); rintro e w' ⟨rfl, n1, rfl⟩) | ((go_at_call 13; with_reducible refine (great_no A2 _ _ _ hg2).mono ?_); rintro e w' ⟨rfl, n2, rfl⟩) | ((go_at_call 19; with_reducible refine (merge_ok (HT.out.drewN _).a (HT.out.drewN _).b 1 HT.out.len rfl).mono ?_); rintro e w3 ⟨gx, hx, rfl, Tx, Kx, x1, x2⟩; have H1 := hid ((HT.out.drewN _).next Kx); have X := hid Tx; clear Tx Kx x1 x2)  | ((go_at_call 19; with_reducible refine (merge_ok H1.out.b H1.out.a 1 H1.out.len.symm rfl).mono ?_); rintro e w4 ⟨gy, hy, rfl, Ty, Ky, y1, y2⟩; have H2 := hid (H1.out.next Ky); have Y := hid (And.intro Ty Ky); clear Ty Ky y1 y2)  | ((go_at_call 19; with_reducible refine (merge_ok H2.out.a H2.out.a 1 rfl rfl).mono ?_); rintro e w5 ⟨gz, hz, rfl, Tz, Kz, z1, z2⟩; have H3 := hid (H2.out.next Kz); have Z := hid (And.intro Tz Kz); clear Tz Kz z1 z2)  | ((go_at_call 27; with_reducible refine (same_eq ((X.out.kp Y.out.2 (by simp) (by simp)).kp Z.out.2 (by simp) (by simp)) (Y.out.1.kp Z.out.2 (by simp) (by simp)) (mergeL_comm wd' 1 L L2 HT.out.len (by omega))).mono ?_); rintro e w' ⟨rfl, n5, rfl⟩) | ((go_at_call 27; with_reducible refine (same_eq (Z.out.1.drewN _) (H3.out.drewN _).a (mergeL_self wd' 1 L (by omega))).mono ?_); rintro e w' ⟨rfl, n6, rfl⟩) | (go_at_call 14; refine (alive_ok _).mono ?_; rintro e w6 ⟨rfl, k6⟩; have HK6 := hid k6; clear k6))
      go_ret
      exact ⟨rfl, (H3.out.kp.drewN _).chain HK6.out⟩

theorem cnt_zero {n : Nat} (e : cntN (isV L 0) L.length = n) (T : STab W g h wd L) : Calls Try.prog 34 #[.pointer (some ⟨g, 0, none⟩), .int .i64 0] W fun e w' => e = .returned (.int .i64 ((n : Nat) : Int)) ∧ ∃ m, w' = W.drewN m := by
  subst e
  exact count_any T 0

set_option maxRecDepth 100000 in
set_option maxHeartbeats 4000000 in
theorem merged_op2 (n wd : Int) (A : Option Addr) (len cap : Nat) (A2 : Option Addr) (len2 cap2 : Nat) (hg : len ≤ 80) (hg2 : len2 ≤ 80) (hA : ActsAt w A len) (hA2 : ActsAt w A2 len2) :
    Calls Try.prog 10 #[.int .i64 n, .int .i64 wd, .slice A len cap, .slice A2 len2 cap2, .int .i64 2] w (TrueP w) := by
  have HA := hid hA
  have HA2 := hid hA2
  clear hA hA2
  go_enter Try.func10, Try.ntmps10
  go_wp2_with (fail)
  refine (made_any _ _ _ _ _ HA.out).mono ?_
  rintro e w1 ⟨K1, rfl | ⟨g, h, g', h', wd', L, rfl, B, rfl, rfl, q1, q2, q3, q4⟩⟩
  · have HK := hid K1
    clear K1
    go_wp2_with (first | ((go_at_call 28; with_reducible refine (made_some _ _ A2 len2 cap2 (HA2.out.kp HK.out)).mono ?_); rintro e w2 ⟨p2, q2, rfl, K2⟩; have HK2 := hid K2; clear K2) | ((go_at_call 13; with_reducible refine (great_no A _ _ _ hg).mono ?_); rintro e w' ⟨rfl, n1, rfl⟩) | ((go_at_call 13; with_reducible refine (great_no A2 _ _ _ hg2).mono ?_); rintro e w' ⟨rfl, n2, rfl⟩) | (go_at_call 14; refine (alive_ok _).mono ?_; rintro e w6 ⟨rfl, k6⟩; have HK6 := hid k6; clear k6))
    go_ret
    exact ⟨rfl, ((HK.out.chain HK2.out).drewN _).chain HK6.out⟩
  · have HK := hid K1
    have HB := hid B
    clear K1 B q1 q2 q3 q4
    go_wp2_with (fail)
    refine (made_any _ _ _ _ _ (HA2.out.kp HK.out)).mono ?_
    rintro e w2 ⟨K2, rfl | ⟨g2, h2, g2', h2', wd2, L2, rfl, B2, e3, e4, p1, p2, p3, p4⟩⟩
    · have HK2 := hid K2
      clear K2
      go_wp2_with (first | ((go_at_call 13; with_reducible refine (great_no A _ _ _ hg).mono ?_); rintro e w' ⟨rfl, n1, rfl⟩) | ((go_at_call 13; with_reducible refine (great_no A2 _ _ _ hg2).mono ?_); rintro e w' ⟨rfl, n2, rfl⟩) | (go_at_call 14; refine (alive_ok _).mono ?_; rintro e w6 ⟨rfl, k6⟩; have HK6 := hid k6; clear k6))
      go_ret
      exact ⟨rfl, ((HK.out.chain HK2.out).drewN _).chain HK6.out⟩
    · obtain rfl : wd' = wd2 := by omega
      have HT := hid (Two.mk (HB.out.1.kp K2 (by simp) (by simp)) B2.1 (show L.length = L2.length by omega) (HK.out.chain K2))
      clear K2 B2 e3 e4 p1 p2 p3 p4 HB HK
      go_wp2_with (first | ((go_at_call 13; with_reducible refine (great_no A _ _ _ hg).mono ?_); rintro e w' ⟨rfl, n1, rfl⟩) | ((go_at_call 13; with_reducible refine (great_no A2 _ _ _ hg2).mono ?_); rintro e w' ⟨rfl, n2, rfl⟩) | ((go_at_call 19; with_reducible refine (merge_ok (HT.out.drewN _).a (HT.out.drewN _).b 2 HT.out.len rfl).mono ?_); rintro e w3 ⟨gx, hx, rfl, Tx, Kx, x1, x2⟩; have H1 := hid ((HT.out.drewN _).next Kx); have X := hid Tx; clear Tx Kx x1 x2)  | ((go_at_call 19; with_reducible refine (merge_ok H1.out.b H1.out.a 2 H1.out.len.symm rfl).mono ?_); rintro e w4 ⟨gy, hy, rfl, Ty, Ky, y1, y2⟩; have H2 := hid (H1.out.next Ky); have Y := hid (And.intro Ty Ky); clear Ty Ky y1 y2)  | ((go_at_call 19; with_reducible refine (merge_ok H2.out.a H2.out.a 2 rfl rfl).mono ?_); rintro e w5 ⟨gz, hz, rfl, Tz, Kz, z1, z2⟩; have H3 := hid (H2.out.next Kz); have Z := hid (And.intro Tz Kz); clear Tz Kz z1 z2)  | ((go_at_call 34; with_reducible refine (cnt_zero (mergeL_cnt wd' L) Z.out.1).mono ?_); rintro e w' ⟨rfl, n5, rfl⟩) | ((go_at_call 25; with_reducible refine (entries_any (H3.out.drewN _).a).mono ?_); rintro e w' ⟨rfl, n6, rfl⟩) | (go_at_call 14; refine (alive_ok _).mono ?_; rintro e w6 ⟨rfl, k6⟩; have HK6 := hid k6; clear k6))
      go_ret
      exact ⟨rfl, (H3.out.kp.drewN _).chain HK6.out⟩

theorem merged_ok (n wd : Int) (A : Option Addr) (len cap : Nat) (A2 : Option Addr) (len2 cap2 : Nat) (op : Int) (hA : ActsAt w A len) (hA2 : ActsAt w A2 len2) :
    Calls Try.prog 10 #[.int .i64 n, .int .i64 wd, .slice A len cap, .slice A2 len2 cap2, .int .i64 op] w (TrueP w) := by
  by_cases hg : 80 < len
  · exact merged_great1 n wd A len cap A2 len2 cap2 op hg hA hA2
  by_cases hg2 : 80 < len2
  · exact merged_great2 n wd A len cap A2 len2 cap2 op (by omega) hg2 hA hA2
  by_cases ho : op < 0 ∨ 2 < op
  · exact merged_bad n wd A len cap A2 len2 cap2 op (by omega) (by omega) ho hA hA2
  have h3 : op = 0 ∨ op = 1 ∨ op = 2 := by omega
  rcases h3 with rfl | rfl | rfl
  · exact merged_op0 n wd A len cap A2 len2 cap2 (by omega) (by omega) hA hA2
  · exact merged_op1 n wd A len cap A2 len2 cap2 (by omega) (by omega) hA hA2
  · exact merged_op2 n wd A len cap A2 len2 cap2 (by omega) (by omega) hA hA2
end
end Go.Proofs.Ythhgcjbmnkdgjaa
