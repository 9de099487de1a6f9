/-
  The walk of the law SidePlays. Conditions: its slice reads as calls.
-/
import Derived.Test.YthhgcjbmnkdgjaaUc
namespace Go.Proofs.Ythhgcjbmnkdgjaa
set_option linter.unusedVariables false
set_option linter.unusedSimpArgs false
open Go.RowKit Go.Deep

section
variable {w W W' : World} {g h g' h' g2 h2 g2' h2' wd : Nat} {L M : List Nat}
/-- What is known at a round: the two tables, in new memory. -/
structure Sp (w W : World) (g h g' h' wd : Nat) (L : List Nat) : Prop where
  kp : Kp [] w W
  a : Both W g h g' h' wd L
  n1 : w.heap.size ≤ h
  n2 : w.heap.size ≤ h'
theorem Sp.nx (p : Sp w W g h g' h' wd L) (k : Kp [] W W') : Sp w W' g h g' h' wd L := ⟨p.kp.chain k, p.a.nx k, p.n1, p.n2⟩
theorem Sp.drewN (p : Sp w W g h g' h' wd L) (n : Nat) : Sp w (W.drewN n) g h g' h' wd L := p.nx (Kp.draw _ _)
theorem Sp.drew (p : Sp w W g h g' h' wd L) : Sp w W.drew g h g' h' wd L := p.nx (Kp.draw _ 1)
theorem Sp.other (p : Sp w W g h g' h' wd L) (b : Both W g2 h2 g2' h2' wd M) (x1 : w.heap.size ≤ h2) (x2 : w.heap.size ≤ h2') : Sp w W g2 h2 g2' h2' wd M := ⟨p.kp, b, x1, x2⟩
theorem Sp.play (p : Sp w W g h g' h' wd L) {n : Nat} {e : Ending} (q : PlayP W g h g' h' wd n e W') : ∃ M, Sp w W' g h g' h' wd M := by
  obtain ⟨_, M, _, B, K⟩ := q
  exact ⟨M, p.kp.trans K (by simp) (by simpa using ⟨p.n1, p.n2⟩), B, p.n1, p.n2⟩
theorem play_sp {k a b c : Int} (p : Sp w W g h g' h' wd L) :
    Calls Try.prog 21 #[.pointer (some ⟨g, 0, none⟩), .pointer (some ⟨g', 0, none⟩), .agg #[.int .i64 k, .int .i64 a, .int .i64 b, .int .i64 c]] W fun e w' => e = .returned (.bool true) ∧ ∃ M, Sp w w' g h g' h' wd M :=
  (play_any p.a k a b c).mono fun e w' q => ⟨q.1, p.play q⟩
theorem Sp.start {w1 w2 : World} (T : STab w1 g h wd L) (K : Kp [] w w1) (n1 : w.heap.size ≤ h) (R : RTab w2 g' h' wd L) (K2 : Kp [] w1 w2) (n2 : w1.heap.size ≤ h') : Sp w w2 g h g' h' wd L :=
  ⟨K.chain K2, ⟨T.kp K2 (by simp) (by simp), R⟩, n1, Nat.le_trans K.size n2⟩

theorem merge_badop (T : STab W g h wd L) (T' : STab W g' h' wd L) (op : Int) (ho : opB op = false) :
    Calls Try.prog 19 #[.pointer (some ⟨g, 0, none⟩), .pointer (some ⟨g', 0, none⟩), .int .i64 op] W fun e w' => e = .returned (.tuple #[.pointer none, .int .i64 1]) ∧ ∃ m, w' = W.drewN m := merge_bad T T' op (by rw [ho, Bool.and_false])
theorem r_merge_badop (T : RTab W g h wd L) (T' : RTab W g' h' wd L) (op : Int) (ho : opB op = false) :
    Calls Try.prog 20 #[.pointer (some ⟨g, 0, none⟩), .pointer (some ⟨g', 0, none⟩), .int .i64 op] W fun e w' => e = .returned (.tuple #[.pointer none, .int .i64 1]) ∧ ∃ m, w' = W.drewN m := r_merge_bad T T' op (by rw [ho, Bool.and_false])
set_option maxRecDepth 100000 in
set_option maxHeartbeats 1000000 in
theorem plays_great (n wd : Int) (A : Option Addr) (len cap : Nat) (hg : 80 < len) :
    Calls Try.prog 3 #[.int .i64 n, .int .i64 wd, .slice A len cap] w (TrueP w) := by
  go_enter Try.func3, Try.ntmps3
  go_wp2_with (first | ((go_at_call 13; with_reducible refine (great_yes A _ _ _ hg).mono ?_); rintro e w' ⟨rfl, n1, rfl⟩) | (go_at_call 14; refine (alive_ok _).mono ?_; rintro e w6 ⟨rfl, k6⟩; have S6 := hid k6; clear k6))
  go_ret
  exact ⟨rfl, (Kp.draw w _).chain S6.out⟩
set_option maxRecDepth 100000 in
set_option maxHeartbeats 4000000 in
theorem plays_bad (n wd : Int) (A : Option Addr) (len cap : Nat) (hg : len ≤ 80) (hb : newB n wd = false) :
    Calls Try.prog 3 #[.int .i64 n, .int .i64 wd, .slice A len cap] w (TrueP w) := by
  have HB := hid hb
  clear hb
  have S := hid (P0.mk (Kp.refl [] w))
  have h0 : len = 0 ∨ 0 < len := by omega
  rcases h0 with rfl | h0
  all_goals
    go_enter Try.func3, Try.ntmps3
    go_wp2_with (first | ((go_at_call 13; with_reducible refine (great_no A _ _ _ hg).mono ?_); rintro e w' ⟨rfl, n1, rfl⟩) | ((go_at_call 15; with_reducible refine (new_bad _ _ _ HB.out).mono ?_); rintro e w' ⟨rfl, n2, rfl⟩) | ((go_at_call 16; with_reducible refine (r_new_bad _ _ _ HB.out).mono ?_); rintro e w' ⟨rfl, n3, rfl⟩))
    refine wp_loop_rounds 1 ?_
    rw [rounds_succ]
    go_wp2_with (first | ((go_at_call 22; with_reducible refine (lawSame_nil _).mono ?_); rintro e wk ⟨rfl, kk⟩; have S := hid (S.out.nx kk); clear kk) | ((go_at_call 22; with_reducible refine (lawSame_nil _).mono ?_); rintro e wk ⟨rfl, kk⟩; have S := hid ((S.out.drewN _).nx kk); clear kk) | ((go_at_call 23; with_reducible refine (looks_un (un_nil _) _).mono ?_); rintro e wk ⟨rfl, kk⟩; have S := hid (S.out.nx kk); clear kk) | ((go_at_call 23; with_reducible refine (looks_un (un_nil _) _).mono ?_); rintro e wk ⟨rfl, kk⟩; have S := hid ((S.out.drewN _).nx kk); clear kk) | (go_at_call 14; refine (alive_ok _).mono ?_; rintro e w6 ⟨rfl, k6⟩; have S6 := hid k6; clear k6))
    go_ret
    exact ⟨rfl, S.out.kp.chain S6.out⟩
set_option maxRecDepth 100000 in
set_option maxHeartbeats 8000000 in
theorem plays_ok' (n wd : Nat) (A : Option Addr) (len cap : Nat) (hg : len ≤ 80) (h1 : 1 ≤ n) (h2 : n ≤ 4096) (hw : Wd wd) (hA : ActsAt w A len) :
    Calls Try.prog 3 #[.int .i64 (n : Int), .int .i64 (wd : Int), .slice A len cap] w (TrueP w) := by
  have HA := hid hA
  have HW := hid hw
  clear hA hw
  go_enter Try.func3, Try.ntmps3
  go_wp2_with (first | ((go_at_call 13; with_reducible refine (great_no A _ _ _ hg).mono ?_); rintro e w' ⟨rfl, n1, rfl⟩))
  refine (new_ok n wd _ h1 h2 HW.out).mono ?_
  rintro e w2 ⟨rfl, T2, K2⟩
  have HT := hid T2
  have HK := hid K2
  clear T2 K2
  go_wp2_with (fail)
  refine (r_new_ok n wd _ h1 h2 HW.out).mono ?_
  rintro e w3 ⟨rfl, R3, K3⟩
  have S0 := hid (Sp.start HT.out ((Kp.draw w _).chain HK.out) (Nat.le_refl _) R3 K3 (Nat.le_refl _))
  clear R3 K3 HT HK
  go_wp2
  go_loopw [7, 9, 11] (fun x y c wr => ∃ (k g h g' h' : Nat) (L : List Nat), k ≤ len ∧ c = .int .i64 (k : Int) ∧ x = .pointer (some ⟨g, 0, none⟩) ∧ y = .pointer (some ⟨g', 0, none⟩) ∧ Sp w wr g h g' h' wd L) (fun _ _ c _ => len - (intOf c).toNat)
  case atStart => exact ⟨0, _, _, _, _, _, by omega, rfl, rfl, rfl, S0.out⟩
  case round =>
    obtain ⟨k, g, h, g', h', L, hk, rfl, rfl, rfl, S⟩ := hrel
    have S := hid S
    clear S0
    by_cases hlt : k < len
    · obtain ⟨gx, ox, x, a, b, c, rfl, d0, d1, d2, d3⟩ := HA.out k hlt
      have D0 := hid d0
      have D1 := hid d1
      have D2 := hid d2
      have D3 := hid d3
      have c0 := cell_kp S.out.kp d0
      have c1 := cell_kp S.out.kp d1
      have c2 := cell_kp S.out.kp d2
      have c3 := cell_kp S.out.kp d3
      clear d0 d1 d2 d3
      by_cases h6 : x = 6
      · subst h6
        go_wp2_with (fail)
        refine (clone_any S.out.a.1).mono ?_
        rintro e w4 ⟨gc, hc, rfl, Tc, Kc, y1, y2⟩
        have S1 := hid (S.out.nx Kc)
        have HTc := hid Tc
        have HY : Hid (wr.heap.size ≤ hc) := y2
        clear Tc Kc y1 y2 c0 c1 c2 c3
        go_wp2_with (fail)
        refine (r_clone S1.out.a.2).mono ?_
        rintro e w5 ⟨gc', hc', rfl, Rc, Kc, y1, y2⟩
        have hy1 : w.heap.size ≤ hc := Nat.le_trans S.out.kp.size HY.out
        have hy2 : w.heap.size ≤ hc' := Nat.le_trans S1.out.kp.size y2
        have S2 := hid (Sp.other (S1.out.nx Kc) ⟨HTc.out.kp Kc (by simp) (by simp), Rc⟩ hy1 hy2)
        clear Rc Kc y1 y2 hy1 hy2 S S1 HTc HY
        have c0 := cell_kp S2.out.kp D0.out
        have c1 := cell_kp S2.out.kp D1.out
        have c2 := cell_kp S2.out.kp D2.out
        have c3 := cell_kp S2.out.kp D3.out
        go_wp2_with (fail)
        refine (play_sp S2.out).mono ?_
        rintro e w6 ⟨rfl, M, S3⟩
        have HS3 := hid S3
        clear S3 c0 c1 c2 c3
        go_wp2
        go_roundw
        case rel => exact ⟨k + 1, _, _, _, _, _, by omega, by go_num, rfl, rfl, HS3.out⟩
        case measure => simp [intOf]; omega
      by_cases h7 : x = 7
      · subst h7
        rcases ho : opB b
        · have HO2 := hid ho
          clear ho
          go_wp2
          go_region_held3 (fun W => W.cell? ⟨gx, ox + k * 4 + 2, none⟩ = some (.int .i64 b)) (go_keep) (first | (go_at_call 17; refine (clone_any S.out.drew.a.1).mono ?_; rintro e w4 ⟨gc, hc, rfl, Tc, Kc, y1, y2⟩; have S1 := hid (S.out.drew.nx Kc); have HTc := hid Tc; have z2 := cell_kp S1.out.kp D2.out; clear Tc Kc y1 y2) | (go_at_call 19; refine (merge_badop S1.out.a.1 HTc.out b HO2.out).mono ?_; rintro e w' ⟨rfl, n5, rfl⟩; have S2 := hid (S1.out.drewN n5)))
          go_wp2
          go_region_held3 (fun W => W.cell? ⟨gx, ox + k * 4 + 2, none⟩ = some (.int .i64 b)) (go_keep) (first | (go_at_call 18; refine (r_clone S2.out.drew.a.2).mono ?_; rintro e w6 ⟨gc', hc', rfl, Rc, Kc, y1, y2⟩; have S3 := hid (S2.out.drew.nx Kc); have HRc := hid Rc; have KR := hid Kc; have z4 := cell_kp S3.out.kp D2.out; clear Rc Kc y1 y2) | (go_at_call 20; refine (r_merge_badop S3.out.a.2 HRc.out b HO2.out).mono ?_; rintro e w' ⟨rfl, n7, rfl⟩; have S4 := hid (S3.out.drewN n7)))
          have SX := hid S4.out
          have c0 := cell_kp SX.out.kp D0.out
          have c1 := cell_kp SX.out.kp D1.out
          have c2 := cell_kp SX.out.kp D2.out
          have c3 := cell_kp SX.out.kp D3.out
          go_wp2_with (fail)
          refine (play_sp SX.out).mono ?_
          rintro e w8 ⟨rfl, M, S9⟩
          have HS9 := hid S9
          clear S9 c0 c1 c2 c3
          go_wp2
          go_roundw
          case rel => exact ⟨k + 1, _, _, _, _, _, by omega, by go_num, rfl, rfl, HS9.out⟩
          case measure => simp [intOf]; omega
        · have HO := hid ho
          clear ho
          go_wp2
          go_region_held3 (fun W => W.cell? ⟨gx, ox + k * 4 + 2, none⟩ = some (.int .i64 b)) (go_keep) (first | (go_at_call 17; refine (clone_any S.out.drew.a.1).mono ?_; rintro e w4 ⟨gc, hc, rfl, Tc, Kc, y1, y2⟩; have S1 := hid (S.out.drew.nx Kc); have HTc := hid Tc; have z2 := cell_kp S1.out.kp D2.out; clear Tc Kc y1 y2) | (go_at_call 19; refine (merge_ok S1.out.a.1 HTc.out b rfl HO.out).mono ?_; rintro e w5 ⟨g3, h3, rfl, T3, K3, y1, y2⟩; have S2 := hid (S1.out.nx K3); have HT3 := hid T3; have HY : Hid (w.heap.size ≤ h3) := Nat.le_trans S1.out.kp.size y2; have z3 := cell_kp S2.out.kp D2.out; clear T3 K3 y1 y2))
          go_wp2
          go_region_held3 (fun W => W.cell? ⟨gx, ox + k * 4 + 2, none⟩ = some (.int .i64 b)) (go_keep) (first | (go_at_call 18; refine (r_clone S2.out.drew.a.2).mono ?_; rintro e w6 ⟨gc', hc', rfl, Rc, Kc, y1, y2⟩; have S3 := hid (S2.out.drew.nx Kc); have HRc := hid Rc; have KR := hid Kc; have z4 := cell_kp S3.out.kp D2.out; clear Rc Kc y1 y2) | (go_at_call 20; refine (r_merge_ok S3.out.a.2 HRc.out b rfl HO.out).mono ?_; rintro e w7 ⟨g3', h3', rfl, R3, K3, y1, y2⟩; have S4 := hid (S3.out.nx K3); have HR3 := hid R3; have HY2 : Hid (w.heap.size ≤ h3') := Nat.le_trans S3.out.kp.size y2; have HK3 := hid K3; have z5 := cell_kp S4.out.kp D2.out; clear R3 K3 y1 y2))
          have SX := hid (Sp.other S4.out ⟨((HT3.out.kp (Kp.draw _ 1) (by simp) (by simp)).kp KR.out (by simp) (by simp)).kp HK3.out (by simp) (by simp), HR3.out⟩ HY.out HY2.out)
          have c0 := cell_kp SX.out.kp D0.out
          have c1 := cell_kp SX.out.kp D1.out
          have c2 := cell_kp SX.out.kp D2.out
          have c3 := cell_kp SX.out.kp D3.out
          go_wp2_with (fail)
          refine (play_sp SX.out).mono ?_
          rintro e w8 ⟨rfl, M, S9⟩
          have HS9 := hid S9
          clear S9 c0 c1 c2 c3
          go_wp2
          go_roundw
          case rel => exact ⟨k + 1, _, _, _, _, _, by omega, by go_num, rfl, rfl, HS9.out⟩
          case measure => simp [intOf]; omega
      · have e6 : (x == 6) = false := beq_eq_false_iff_ne.2 h6
        have e7 : (x == 7) = false := beq_eq_false_iff_ne.2 h7
        clear h6 h7
        go_wp2_with (fail)
        refine (play_sp S.out).mono ?_
        rintro e w6 ⟨rfl, M, S3⟩
        have HS3 := hid S3
        clear S3 c0 c1 c2 c3
        go_wp2
        go_roundw
        case rel => exact ⟨k + 1, _, _, _, _, _, by omega, by go_num, rfl, rfl, HS3.out⟩
        case measure => simp [intOf]; omega
    · obtain rfl : k = len := by omega
      go_wp2_with (first | ((go_at_call 22; with_reducible refine (lawSame_any S.out.a).mono ?_); rintro e wk ⟨rfl, kk⟩; have S := hid (S.out.nx kk); clear kk) | ((go_at_call 22; with_reducible refine (lawSame_any (S.out.drewN _).a).mono ?_); rintro e wk ⟨rfl, kk⟩; have S := hid ((S.out.drewN _).nx kk); clear kk) | ((go_at_call 23; with_reducible refine (looks_any S.out.a _).mono ?_); rintro e wk ⟨rfl, kk⟩; have S := hid (S.out.nx kk); clear kk) | ((go_at_call 23; with_reducible refine (looks_any (S.out.drewN _).a _).mono ?_); rintro e wk ⟨rfl, kk⟩; have S := hid ((S.out.drewN _).nx kk); clear kk) | (go_at_call 14; refine (alive_ok _).mono ?_; rintro e w6 ⟨rfl, k6⟩; have S6 := hid k6; clear k6))
      go_ret
      exact ⟨rfl, S.out.kp.chain S6.out⟩
theorem plays_ok (n wd : Int) (A : Option Addr) (len cap : Nat) (hA : ActsAt w A len) :
    Calls Try.prog 3 #[.int .i64 n, .int .i64 wd, .slice A len cap] w (TrueP w) := by
  by_cases hg : 80 < len
  · exact plays_great n wd A len cap hg
  rcases hb : newB n wd
  · exact plays_bad n wd A len cap (by omega) hb
  · unfold newB at hb
    simp only [Bool.and_eq_true, decide_eq_true_eq] at hb
    obtain ⟨⟨h1, h2⟩, h3⟩ := hb
    obtain ⟨wd', rfl, hw⟩ := wdB_nat h3
    obtain ⟨n', rfl⟩ : ∃ n' : Nat, n = (n' : Int) := ⟨n.toNat, by omega⟩
    exact plays_ok' n' wd' A len cap (by omega) (by omega) (by omega) hw hA
end
end Go.Proofs.Ythhgcjbmnkdgjaa
