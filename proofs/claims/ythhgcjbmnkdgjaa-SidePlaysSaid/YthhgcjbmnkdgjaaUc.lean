/-
  The walk of the law SideMerges. Conditions: its slices read as calls.
-/
import Derived.Test.YthhgcjbmnkdgjaaUb
namespace Go.Proofs.Ythhgcjbmnkdgjaa
set_option linter.unusedVariables false
set_option linter.unusedSimpArgs false
open Go.RowKit Go.Deep

section
variable {w W W' : World} {g h g' h' g2 h2 g2' h2' g3 h3 g3' h3' wd wd2 wd3 : Nat} {L M N : List Nat}
theorem NotBoth.right {v' : Value} (T : STab W g h wd L) (u : Unmade W v') : NotBoth W (.pointer (some ⟨g, 0, none⟩)) v' := .inr ⟨u, g, h, wd, L, rfl, T⟩
/-- What is known of none, one, two, three pairs of tables. -/
structure P0 (w W : World) : Prop where
  kp : Kp [] w W
structure P1 (w W : World) (g h g' h' wd : Nat) (L : List Nat) : Prop where
  kp : Kp [] w W
  a : Both W g h g' h' wd L
structure P2 (w W : World) (g h g' h' wd : Nat) (L : List Nat) (g2 h2 g2' h2' wd2 : Nat) (M : List Nat) : Prop where
  kp : Kp [] w W
  a : Both W g h g' h' wd L
  b : Both W g2 h2 g2' h2' wd2 M
structure P3 (w W : World) (g h g' h' wd : Nat) (L : List Nat) (g2 h2 g2' h2' wd2 : Nat) (M : List Nat) (g3 h3 g3' h3' wd3 : Nat) (N : List Nat) : Prop where
  kp : Kp [] w W
  a : Both W g h g' h' wd L
  b : Both W g2 h2 g2' h2' wd2 M
  c : Both W g3 h3 g3' h3' wd3 N
theorem Both.s (b : Both W g h g' h' wd L) : STab W g h wd L := b.1
theorem Both.r (b : Both W g h g' h' wd L) : RTab W g' h' wd L := b.2
theorem Both.nx (b : Both W g h g' h' wd L) (k : Kp [] W W') : Both W' g h g' h' wd L := b.kp k (by simp) (by simp) (by simp) (by simp)
theorem P0.nx (p : P0 w W) (k : Kp [] W W') : P0 w W' := ⟨p.kp.chain k⟩
theorem P1.nx (p : P1 w W g h g' h' wd L) (k : Kp [] W W') : P1 w W' g h g' h' wd L := ⟨p.kp.chain k, p.a.nx k⟩
theorem P2.nx (p : P2 w W g h g' h' wd L g2 h2 g2' h2' wd2 M) (k : Kp [] W W') : P2 w W' g h g' h' wd L g2 h2 g2' h2' wd2 M := ⟨p.kp.chain k, p.a.nx k, p.b.nx k⟩
theorem P3.nx (p : P3 w W g h g' h' wd L g2 h2 g2' h2' wd2 M g3 h3 g3' h3' wd3 N) (k : Kp [] W W') : P3 w W' g h g' h' wd L g2 h2 g2' h2' wd2 M g3 h3 g3' h3' wd3 N := ⟨p.kp.chain k, p.a.nx k, p.b.nx k, p.c.nx k⟩
theorem P0.drewN (p : P0 w W) (n : Nat) : P0 w (W.drewN n) := p.nx (Kp.draw _ _)
theorem P1.drewN (p : P1 w W g h g' h' wd L) (n : Nat) : P1 w (W.drewN n) g h g' h' wd L := p.nx (Kp.draw _ _)
theorem P2.drewN (p : P2 w W g h g' h' wd L g2 h2 g2' h2' wd2 M) (n : Nat) : P2 w (W.drewN n) g h g' h' wd L g2 h2 g2' h2' wd2 M := p.nx (Kp.draw _ _)
theorem P3.drewN (p : P3 w W g h g' h' wd L g2 h2 g2' h2' wd2 M g3 h3 g3' h3' wd3 N) (n : Nat) : P3 w (W.drewN n) g h g' h' wd L g2 h2 g2' h2' wd2 M g3 h3 g3' h3' wd3 N := p.nx (Kp.draw _ _)
theorem nil_nil (W : World) (v' : Value) : NotBoth W (.pointer none) v' := .inl (un_nil W)

set_option maxRecDepth 100000 in
set_option maxHeartbeats 1000000 in
theorem merges_great1 (n wd : Int) (A : Option Addr) (len cap : Nat) (m wide : Int) (A2 : Option Addr) (len2 cap2 : Nat) (op : Int) (hg : 80 < len) :
    Calls Try.prog 5 #[.int .i64 n, .int .i64 wd, .slice A len cap, .int .i64 m, .int .i64 wide, .slice A2 len2 cap2, .int .i64 op] w (TrueP w) := by
  go_enter Try.func5, Try.ntmps5
  go_wp2_with (first | ((go_at_call 13; with_reducible refine (great_yes A _ _ _ hg).mono ?_); rintro e w' ⟨rfl, n1, rfl⟩) | (go_at_call 14; refine (alive_ok _).mono ?_; rintro e w6 ⟨rfl, k6⟩; have S6 := hid k6; clear k6))
  go_ret
  exact ⟨rfl, (Kp.draw w _).chain S6.out⟩
set_option maxRecDepth 100000 in
set_option maxHeartbeats 1000000 in
theorem merges_great2 (n wd : Int) (A : Option Addr) (len cap : Nat) (m wide : Int) (A2 : Option Addr) (len2 cap2 : Nat) (op : Int) (hg : len ≤ 80) (hg2 : 80 < len2) :
    Calls Try.prog 5 #[.int .i64 n, .int .i64 wd, .slice A len cap, .int .i64 m, .int .i64 wide, .slice A2 len2 cap2, .int .i64 op] w (TrueP w) := by
  go_enter Try.func5, Try.ntmps5
  go_wp2_with (first | ((go_at_call 13; with_reducible refine (great_no A _ _ _ hg).mono ?_); rintro e w' ⟨rfl, n1, rfl⟩) | ((go_at_call 13; with_reducible refine (great_yes A2 _ _ _ hg2).mono ?_); rintro e w' ⟨rfl, n1, rfl⟩) | (go_at_call 14; refine (alive_ok _).mono ?_; rintro e w6 ⟨rfl, k6⟩; have S6 := hid k6; clear k6))
  go_ret
  exact ⟨rfl, (Kp.draw w _).chain S6.out⟩
set_option maxRecDepth 100000 in
set_option maxHeartbeats 8000000 in
theorem merges_rest (n wd : Int) (A : Option Addr) (len cap : Nat) (m wide : Int) (A2 : Option Addr) (len2 cap2 : Nat) (op : Int) (hg : len ≤ 80) (hg2 : len2 ≤ 80) (hA : ActsAt w A len) (hA2 : ActsAt w A2 len2) :
    Calls Try.prog 5 #[.int .i64 n, .int .i64 wd, .slice A len cap, .int .i64 m, .int .i64 wide, .slice A2 len2 cap2, .int .i64 op] w (TrueP w) := by
  have HA := hid hA
  have HA2 := hid hA2
  clear hA hA2
  go_enter Try.func5, Try.ntmps5
  go_wp2_with (first | ((go_at_call 13; with_reducible refine (great_no A _ _ _ hg).mono ?_); rintro e w' ⟨rfl, n1, rfl⟩) | ((go_at_call 13; with_reducible refine (great_no A2 _ _ _ hg2).mono ?_); rintro e w' ⟨rfl, n1, rfl⟩))
  refine (made_any _ _ _ _ _ (HA.out.kp (Kp.draw w _))).mono ?_
  rintro e w1 ⟨K1, rfl | ⟨g, h, g', h', wd', L, rfl, B, rfl, rfl, q1, q2, q3, q4⟩⟩
  · have HK := hid ((Kp.draw w _).chain K1)
    clear K1
    go_wp2_with (fail)
    refine (made_any _ _ _ _ _ (HA2.out.kp HK.out)).mono ?_
    rintro e w2 ⟨K2, rfl | ⟨g2, h2, g2', h2', wd2, M, rfl, B2, rfl, rfl, p1, p2, p3, p4⟩⟩
    · have S := hid (P0.mk (HK.out.chain K2))
      clear K2 HK
      go_wp2_with (first | ((go_at_call 19; with_reducible refine (merge_not (nil_nil _ (.pointer none)) op).mono ?_); rintro e w' ⟨rfl, nd, rfl⟩) | ((go_at_call 20; with_reducible refine (r_merge_nil1 (.pointer none) op).mono ?_); rintro e w' ⟨rfl, nd, rfl⟩) | ((go_at_call 22; with_reducible refine (lawSame_nil _).mono ?_); rintro e wk ⟨rfl, kk⟩; have S := hid (S.out.nx kk); clear kk) | ((go_at_call 22; with_reducible refine (lawSame_nil _).mono ?_); rintro e wk ⟨rfl, kk⟩; have S := hid ((S.out.drewN _).nx kk); clear kk) | ((go_at_call 27; with_reducible refine (same_not (nil_nil _ (.pointer none))).mono ?_); rintro e w' ⟨rfl, nd, rfl⟩) | ((go_at_call 29; with_reducible refine (r_same_nil1 _ (.pointer none)).mono ?_); rintro e w' ⟨rfl, nd, rfl⟩) | (go_at_call 14; refine (alive_ok _).mono ?_; rintro e w6 ⟨rfl, k6⟩; have S6 := hid k6; clear k6))
      go_ret
      first | exact ⟨rfl, S.out.kp.chain S6.out⟩ | exact ⟨rfl, (S.out.kp.drewN _).chain S6.out⟩
    · have S := hid (P1.mk (HK.out.chain K2) B2)
      clear K2 HK B2 p1 p2 p3 p4
      go_wp2_with (first | ((go_at_call 19; with_reducible refine (merge_not (nil_nil _ (.pointer (some ⟨g2, 0, none⟩))) op).mono ?_); rintro e w' ⟨rfl, nd, rfl⟩) | ((go_at_call 20; with_reducible refine (r_merge_nil1 (.pointer (some ⟨g2', 0, none⟩)) op).mono ?_); rintro e w' ⟨rfl, nd, rfl⟩) | ((go_at_call 22; with_reducible refine (lawSame_nil _).mono ?_); rintro e wk ⟨rfl, kk⟩; have S := hid (S.out.nx kk); clear kk) | ((go_at_call 22; with_reducible refine (lawSame_nil _).mono ?_); rintro e wk ⟨rfl, kk⟩; have S := hid ((S.out.drewN _).nx kk); clear kk) | ((go_at_call 22; with_reducible refine (lawSame_any S.out.a).mono ?_); rintro e wk ⟨rfl, kk⟩; have S := hid (S.out.nx kk); clear kk) | ((go_at_call 22; with_reducible refine (lawSame_any (S.out.drewN _).a).mono ?_); rintro e wk ⟨rfl, kk⟩; have S := hid ((S.out.drewN _).nx kk); clear kk) | ((go_at_call 27; with_reducible refine (same_not (nil_nil _ (.pointer (some ⟨g2, 0, none⟩)))).mono ?_); rintro e w' ⟨rfl, nd, rfl⟩) | ((go_at_call 29; with_reducible refine (r_same_nil1 _ (.pointer (some ⟨g2', 0, none⟩))).mono ?_); rintro e w' ⟨rfl, nd, rfl⟩) | (go_at_call 14; refine (alive_ok _).mono ?_; rintro e w6 ⟨rfl, k6⟩; have S6 := hid k6; clear k6))
      go_ret
      first | exact ⟨rfl, S.out.kp.chain S6.out⟩ | exact ⟨rfl, (S.out.kp.drewN _).chain S6.out⟩
  · have HK := hid ((Kp.draw w _).chain K1)
    have HB := hid B
    clear K1 B q1 q2 q3 q4
    go_wp2_with (fail)
    refine (made_any _ _ _ _ _ (HA2.out.kp HK.out)).mono ?_
    rintro e w2 ⟨K2, rfl | ⟨g2, h2, g2', h2', wd2, M, rfl, B2, rfl, rfl, p1, p2, p3, p4⟩⟩
    · have S := hid (P1.mk (HK.out.chain K2) (HB.out.nx K2))
      clear K2 HK HB
      go_wp2_with (first | ((go_at_call 19; with_reducible refine (merge_not (NotBoth.right S.out.a.s (un_nil _)) op).mono ?_); rintro e w' ⟨rfl, nd, rfl⟩) | ((go_at_call 19; with_reducible refine (merge_not (NotBoth.right (S.out.drewN _).a.s (un_nil _)) op).mono ?_); rintro e w' ⟨rfl, nd, rfl⟩) | ((go_at_call 20; with_reducible refine (r_merge_nil2 S.out.a.r op).mono ?_); rintro e w' ⟨rfl, nd, rfl⟩) | ((go_at_call 20; with_reducible refine (r_merge_nil2 (S.out.drewN _).a.r op).mono ?_); rintro e w' ⟨rfl, nd, rfl⟩) | ((go_at_call 22; with_reducible refine (lawSame_nil _).mono ?_); rintro e wk ⟨rfl, kk⟩; have S := hid (S.out.nx kk); clear kk) | ((go_at_call 22; with_reducible refine (lawSame_nil _).mono ?_); rintro e wk ⟨rfl, kk⟩; have S := hid ((S.out.drewN _).nx kk); clear kk) | ((go_at_call 22; with_reducible refine (lawSame_any S.out.a).mono ?_); rintro e wk ⟨rfl, kk⟩; have S := hid (S.out.nx kk); clear kk) | ((go_at_call 22; with_reducible refine (lawSame_any (S.out.drewN _).a).mono ?_); rintro e wk ⟨rfl, kk⟩; have S := hid ((S.out.drewN _).nx kk); clear kk) | ((go_at_call 27; with_reducible refine (same_not (NotBoth.right S.out.a.s (un_nil _))).mono ?_); rintro e w' ⟨rfl, nd, rfl⟩) | ((go_at_call 27; with_reducible refine (same_not (NotBoth.right (S.out.drewN _).a.s (un_nil _))).mono ?_); rintro e w' ⟨rfl, nd, rfl⟩) | ((go_at_call 29; with_reducible refine (r_same_nil2 S.out.a.r).mono ?_); rintro e w' ⟨rfl, nd, rfl⟩) | ((go_at_call 29; with_reducible refine (r_same_nil2 (S.out.drewN _).a.r).mono ?_); rintro e w' ⟨rfl, nd, rfl⟩) | (go_at_call 14; refine (alive_ok _).mono ?_; rintro e w6 ⟨rfl, k6⟩; have S6 := hid k6; clear k6))
      go_ret
      first | exact ⟨rfl, S.out.kp.chain S6.out⟩ | exact ⟨rfl, (S.out.kp.drewN _).chain S6.out⟩
    · have S := hid (P2.mk (HK.out.chain K2) (HB.out.nx K2) B2)
      clear K2 HK HB B2 p1 p2 p3 p4
      have hbb : (sameB wd' L wd2 M == sameB wd' L wd2 M) = true := beq_self_eq_true _
      rcases hb : decide (L.length = M.length) && decide (wd' = wd2) && opB op
      · have HB := hid hb
        clear hb
        go_wp2_with (first | ((go_at_call 19; with_reducible refine (merge_bad S.out.a.s S.out.b.s op HB.out).mono ?_); rintro e w' ⟨rfl, nd, rfl⟩) | ((go_at_call 19; with_reducible refine (merge_bad (S.out.drewN _).a.s (S.out.drewN _).b.s op HB.out).mono ?_); rintro e w' ⟨rfl, nd, rfl⟩) | ((go_at_call 20; with_reducible refine (r_merge_bad S.out.a.r S.out.b.r op HB.out).mono ?_); rintro e w' ⟨rfl, nd, rfl⟩) | ((go_at_call 20; with_reducible refine (r_merge_bad (S.out.drewN _).a.r (S.out.drewN _).b.r op HB.out).mono ?_); rintro e w' ⟨rfl, nd, rfl⟩) | ((go_at_call 22; with_reducible refine (lawSame_nil _).mono ?_); rintro e wk ⟨rfl, kk⟩; have S := hid (S.out.nx kk); clear kk) | ((go_at_call 22; with_reducible refine (lawSame_nil _).mono ?_); rintro e wk ⟨rfl, kk⟩; have S := hid ((S.out.drewN _).nx kk); clear kk) | ((go_at_call 22; with_reducible refine (lawSame_any S.out.a).mono ?_); rintro e wk ⟨rfl, kk⟩; have S := hid (S.out.nx kk); clear kk) | ((go_at_call 22; with_reducible refine (lawSame_any (S.out.drewN _).a).mono ?_); rintro e wk ⟨rfl, kk⟩; have S := hid ((S.out.drewN _).nx kk); clear kk) | ((go_at_call 22; with_reducible refine (lawSame_any S.out.b).mono ?_); rintro e wk ⟨rfl, kk⟩; have S := hid (S.out.nx kk); clear kk) | ((go_at_call 22; with_reducible refine (lawSame_any (S.out.drewN _).b).mono ?_); rintro e wk ⟨rfl, kk⟩; have S := hid ((S.out.drewN _).nx kk); clear kk) | ((go_at_call 27; with_reducible refine (same_any S.out.a.s S.out.b.s).mono ?_); rintro e w' ⟨rfl, nd, rfl⟩) | ((go_at_call 27; with_reducible refine (same_any (S.out.drewN _).a.s (S.out.drewN _).b.s).mono ?_); rintro e w' ⟨rfl, nd, rfl⟩) | ((go_at_call 29; with_reducible refine (r_same S.out.a.r S.out.b.r).mono ?_); rintro e w' ⟨rfl, nd, rfl⟩) | ((go_at_call 29; with_reducible refine (r_same (S.out.drewN _).a.r (S.out.drewN _).b.r).mono ?_); rintro e w' ⟨rfl, nd, rfl⟩) | (go_at_call 14; refine (alive_ok _).mono ?_; rintro e w6 ⟨rfl, k6⟩; have S6 := hid k6; clear k6))
        go_ret
        first | exact ⟨rfl, S.out.kp.chain S6.out⟩ | exact ⟨rfl, (S.out.kp.drewN _).chain S6.out⟩
      · simp only [Bool.and_eq_true, decide_eq_true_eq] at hb
        obtain ⟨⟨hl, rfl⟩, ho⟩ := hb
        have HL := hid hl
        have HO := hid ho
        clear hl ho
        go_wp2_with (fail)
        refine (merge_ok S.out.a.1 S.out.b.1 op HL.out HO.out).mono ?_
        rintro e w3 ⟨g3, h3, rfl, T3, K3, c1, c2⟩
        have S := hid (S.out.nx K3)
        have HT3 := hid T3
        clear K3 T3 c1 c2
        go_wp2_with (fail)
        refine (r_merge_ok S.out.a.2 S.out.b.2 op HL.out HO.out).mono ?_
        rintro e w4 ⟨g3', h3', rfl, R4, K4, c1, c2⟩
        have S := hid (P3.mk (S.out.nx K4).kp (S.out.nx K4).a (S.out.nx K4).b ⟨HT3.out.kp K4 (by simp) (by simp), R4⟩)
        clear K4 R4 c1 c2 HT3
        go_wp2_with (first | ((go_at_call 22; with_reducible refine (lawSame_any S.out.a).mono ?_); rintro e wk ⟨rfl, kk⟩; have S := hid (S.out.nx kk); clear kk) | ((go_at_call 22; with_reducible refine (lawSame_any (S.out.drewN _).a).mono ?_); rintro e wk ⟨rfl, kk⟩; have S := hid ((S.out.drewN _).nx kk); clear kk) | ((go_at_call 22; with_reducible refine (lawSame_any S.out.b).mono ?_); rintro e wk ⟨rfl, kk⟩; have S := hid (S.out.nx kk); clear kk) | ((go_at_call 22; with_reducible refine (lawSame_any (S.out.drewN _).b).mono ?_); rintro e wk ⟨rfl, kk⟩; have S := hid ((S.out.drewN _).nx kk); clear kk) | ((go_at_call 22; with_reducible refine (lawSame_any S.out.c).mono ?_); rintro e wk ⟨rfl, kk⟩; have S := hid (S.out.nx kk); clear kk) | ((go_at_call 22; with_reducible refine (lawSame_any (S.out.drewN _).c).mono ?_); rintro e wk ⟨rfl, kk⟩; have S := hid ((S.out.drewN _).nx kk); clear kk) | ((go_at_call 27; with_reducible refine (same_any S.out.a.s S.out.b.s).mono ?_); rintro e w' ⟨rfl, nd, rfl⟩) | ((go_at_call 27; with_reducible refine (same_any (S.out.drewN _).a.s (S.out.drewN _).b.s).mono ?_); rintro e w' ⟨rfl, nd, rfl⟩) | ((go_at_call 29; with_reducible refine (r_same S.out.a.r S.out.b.r).mono ?_); rintro e w' ⟨rfl, nd, rfl⟩) | ((go_at_call 29; with_reducible refine (r_same (S.out.drewN _).a.r (S.out.drewN _).b.r).mono ?_); rintro e w' ⟨rfl, nd, rfl⟩) | (go_at_call 14; refine (alive_ok _).mono ?_; rintro e w6 ⟨rfl, k6⟩; have S6 := hid k6; clear k6))
        go_ret
        first | exact ⟨rfl, S.out.kp.chain S6.out⟩ | exact ⟨rfl, (S.out.kp.drewN _).chain S6.out⟩
theorem merges_ok (n wd : Int) (A : Option Addr) (len cap : Nat) (m wide : Int) (A2 : Option Addr) (len2 cap2 : Nat) (op : Int) (hA : ActsAt w A len) (hA2 : ActsAt w A2 len2) :
    Calls Try.prog 5 #[.int .i64 n, .int .i64 wd, .slice A len cap, .int .i64 m, .int .i64 wide, .slice A2 len2 cap2, .int .i64 op] w (TrueP w) := by
  by_cases hg : 80 < len
  · exact merges_great1 n wd A len cap m wide A2 len2 cap2 op hg
  by_cases hg2 : 80 < len2
  · exact merges_great2 n wd A len cap m wide A2 len2 cap2 op (by omega) hg2
  exact merges_rest n wd A len cap m wide A2 len2 cap2 op (by omega) (by omega) hA hA2
end
end Go.Proofs.Ythhgcjbmnkdgjaa
