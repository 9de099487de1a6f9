/-
  The walk of the law SideClones. Conditions: its slices read as calls.
-/
import Derived.Test.YthhgcjbmnkdgjaaMa
namespace Go.Proofs.Ythhgcjbmnkdgjaa
set_option linter.unusedVariables false
set_option linter.unusedSimpArgs false
open Go.RowKit

section
variable {w W W' : World} {g h g' h' wd wd' : Nat} {L M : List Nat}
theorem STab.blks (T : STab W g h wd L) : (∃ cs, Blk W g 44 cs) ∧ ∃ cs, Blk W h 79 cs := by
  obtain ⟨ws, c, sp, _, _, _, _, _, _, b1, b2⟩ := T
  exact ⟨⟨_, b1⟩, ⟨_, b2⟩⟩
theorem RTab.blks (T : RTab W g h wd L) : (∃ cs, Blk W g 77 cs) ∧ ∃ cs, Blk W h 3 cs := by
  obtain ⟨c, sp, _, _, _, _, _, _, _, b1, b2⟩ := T
  exact ⟨⟨_, b1⟩, ⟨_, b2⟩⟩
theorem blk_ne {t t' : TypeId} (b : ∃ cs, Blk W g t cs) (b' : ∃ cs, Blk W h t' cs) (hne : t ≠ t') : g ≠ h := by
  obtain ⟨_, b⟩ := b
  obtain ⟨_, b'⟩ := b'
  exact b.ne_ b' hne

/-- Two tables and two of the reference's. -/
structure Four (w W : World) (ga ha go ho gb hb gu hu wd : Nat) (L : List Nat) (M : List Nat) : Prop where
  a : Both W ga ha go ho wd M
  b : Both W gb hb gu hu wd L
  ne : ha ≠ hb ∧ ho ≠ hu
  new : w.heap.size ≤ ha ∧ w.heap.size ≤ ho
  kp : Kp [] w W
variable {ga ha go ho gb hb gu hu : Nat}
theorem Four.step (f : Four w W ga ha go ho gb hb gu hu wd L M) {e : Ending} (p : PlayP W ga ha go ho wd M.length e W') : ∃ M', Four w W' ga ha go ho gb hb gu hu wd L M' := by
  obtain ⟨_, M', hM, B2, K2⟩ := p
  have a1 := f.a.1.blks
  have a2 := f.a.2.blks
  have b1 := f.b.1.blks
  have b2 := f.b.2.blks
  refine ⟨M', B2, f.b.kp K2 ?_ ?_ ?_ ?_, f.ne, f.new, f.kp.trans K2 (by simp) (by simpa using f.new)⟩
  · simpa using ⟨blk_ne b1.1 a1.2 (by decide), blk_ne b1.1 a2.2 (by decide)⟩
  · simpa using ⟨fun e => f.ne.1 e.symm, blk_ne b1.2 a2.2 (by decide)⟩
  · simpa using ⟨blk_ne b2.1 a1.2 (by decide), blk_ne b2.1 a2.2 (by decide)⟩
  · simpa using ⟨blk_ne b2.2 a1.2 (by decide), fun e => f.ne.2 e.symm⟩

def NilP (w : World) (e : Ending) (w' : World) : Prop := e = .returned (.tuple #[.pointer none, .pointer none]) ∧ Kp [] w w'
theorem made_nil_great (n wd : Int) (A : Option Addr) (len cap : Nat) (hg : 80 < len) :
    Calls Try.prog 28 #[.int .i64 n, .int .i64 wd, .slice A len cap] w (NilP w) := by
  go_enter Try.func28, Try.ntmps28
  go_wp2_with (go_at_call 13; refine (great_yes _ _ _ _ hg).mono ?_; rintro e w' ⟨rfl, n1, rfl⟩)
  go_ret2
  exact ⟨rfl, (Kp.refl [] w).drewN _⟩

theorem four_start {w1 w2 w3 : World} {gc hc : Nat} (K1 : Kp [] w w1) (B : Both w1 g h g' h' wd L) (hb : w.heap.size ≤ h ∧ w.heap.size ≤ h') (Tc : STab w2 gc hc wd L) (Kc : Kp [] w1 w2) (hh : w1.heap.size ≤ hc)
    (Ro : RTab w3 go ho wd L) (Ko : Kp [] w2 w3) (hho : w2.heap.size ≤ ho) : Four w w3 g h go ho gc hc g' h' wd L L ∧ Four w w3 gc hc go ho g h g' h' wd L L := by
  have l1 := B.1.h_lt
  have l2 := B.2.h_lt
  have l3 := Tc.h_lt
  have z1 := K1.size
  have z2 := Kc.size
  have B3 := (B.kp Kc (by simp) (by simp) (by simp) (by simp)).kp Ko (by simp) (by simp) (by simp) (by simp)
  have Tc3 := Tc.kp Ko (by simp) (by simp)
  have K3 : Kp [] w w3 := (K1.trans Kc (U := []) (by simp) (by simp)).trans Ko (by simp) (by simp)
  exact ⟨⟨⟨B3.1, Ro⟩, ⟨Tc3, B3.2⟩, ⟨by omega, by omega⟩, ⟨hb.1, by omega⟩, K3⟩, ⟨⟨Tc3, Ro⟩, B3, ⟨by omega, by omega⟩, ⟨by omega, by omega⟩, K3⟩⟩
theorem play_four {k a b c : Int} (f : Four w W ga ha go ho gb hb gu hu wd L M) :
    Calls Try.prog 21 #[.pointer (some ⟨ga, 0, none⟩), .pointer (some ⟨go, 0, none⟩), .agg #[.int .i64 k, .int .i64 a, .int .i64 b, .int .i64 c]] W fun e w' => e = .returned (.bool true) ∧ ∃ M', Four w w' ga ha go ho gb hb gu hu wd L M' :=
  (play_any f.a k a b c).mono fun e w' p => ⟨p.1, f.step p⟩
theorem Kp.chain {a b c : World} (h : Kp [] a b) (k : Kp [] b c) : Kp [] a c := h.trans k (by simp) (by simp)

set_option maxRecDepth 100000 in
set_option maxHeartbeats 1000000 in
theorem clones_great (n wd : Int) (A A2 : Option Addr) (len cap len2 cap2 : Nat) (cl : Bool) (hg : 80 < len) :
    Calls Try.prog 12 #[.int .i64 n, .int .i64 wd, .slice A len cap, .slice A2 len2 cap2, .bool cl] w (TrueP w) := by
  go_enter Try.func12, Try.ntmps12
  go_wp2_with (first | (go_at_call 28; refine (made_nil_great _ _ _ _ _ hg).mono ?_; rintro e w1 ⟨rfl, K1⟩; have HK := hid K1; clear K1) | (go_at_call 13; refine (great_yes _ _ _ _ hg).mono ?_; rintro e w' ⟨rfl, n1, rfl⟩) | (go_at_call 14; refine (alive_ok _).mono ?_; rintro e w6 ⟨rfl, k6⟩; have HK6 := hid k6; clear k6))
  go_ret
  exact ⟨rfl, (HK.out.drewN _).chain HK6.out⟩
set_option maxRecDepth 100000 in
set_option maxHeartbeats 2000000 in
theorem clones_rest (n wd : Int) (A A2 : Option Addr) (len cap len2 cap2 : Nat) (cl : Bool) (hg : len ≤ 80) (hA : ActsAt w A len) (hA2 : ActsAt w A2 len2) :
    Calls Try.prog 12 #[.int .i64 n, .int .i64 wd, .slice A len cap, .slice A2 len2 cap2, .bool cl] w (TrueP w) := by
  have HA := hid hA
  have HA2 := hid hA2
  clear hA hA2
  by_cases hg2 : 80 < len2
  · go_enter Try.func12, Try.ntmps12
    go_wp2_with (fail)
    refine (made_any _ _ _ _ _ HA.out).mono ?_
    rintro e w1 ⟨K1, rfl | ⟨g, h, g', h', wd', L, rfl, B, rfl, rfl, q1, q2, q3, q4⟩⟩
    all_goals
      have HK := hid K1
      clear K1
      go_wp2_with (first | ((go_at_call 13; with_reducible refine (great_no A _ _ _ hg).mono ?_); rintro e w' ⟨rfl, n1, rfl⟩) | ((go_at_call 13; with_reducible refine (great_yes A2 _ _ _ hg2).mono ?_); rintro e w' ⟨rfl, n1, rfl⟩) | (go_at_call 14; refine (alive_ok _).mono ?_; rintro e w6 ⟨rfl, k6⟩; have HK6 := hid k6; clear k6))
      go_ret
      exact ⟨rfl, (HK.out.drewN _).chain HK6.out⟩
  · have hg3 : len2 ≤ 80 := by omega
    clear hg2
    go_enter Try.func12, Try.ntmps12
    go_wp2_with (fail)
    refine (made_any _ _ _ _ _ HA.out).mono ?_
    rintro e w1 ⟨K1, rfl | ⟨g, h, g', h', wd', L, rfl, B, rfl, rfl, q1, q2, q3, q4⟩⟩
    · have HK := hid K1
      clear K1
      go_wp2_with (first | ((go_at_call 13; with_reducible refine (great_no A _ _ _ hg).mono ?_); rintro e w' ⟨rfl, n1, rfl⟩) | ((go_at_call 13; with_reducible refine (great_no A2 _ _ _ hg3).mono ?_); rintro e w' ⟨rfl, n1, rfl⟩) | (go_at_call 14; refine (alive_ok _).mono ?_; rintro e w6 ⟨rfl, k6⟩; have HK6 := hid k6; clear k6))
      go_ret
      exact ⟨rfl, (HK.out.drewN _).chain HK6.out⟩
    · have HK := hid K1
      have HB := hid B
      clear K1 B
      have HQ : Hid (w.heap.size ≤ h ∧ w.heap.size ≤ h') := ⟨q2, q4⟩
      clear q1 q2 q3 q4
      rcases cl
      · go_wp2_with (first | ((go_at_call 13; with_reducible refine (great_no A _ _ _ hg).mono ?_); rintro e w' ⟨rfl, n1, rfl⟩) | ((go_at_call 13; with_reducible refine (great_no A2 _ _ _ hg3).mono ?_); rintro e w' ⟨rfl, n2, rfl⟩) | (go_at_call 17; refine (clone_any (w := World.drewN _ _) (HB.out.1.drewN _)).mono ?_; rintro e w2 ⟨gc, hc, rfl, Tc, Kc, c1, c2⟩; have HT := hid Tc; have HKc := hid Kc.from_drewN; have HR := hid (HB.out.2.kp Kc.from_drewN (by simp) (by simp)); have C2 := hid c2; clear Tc Kc c1 c2) | (go_at_call 18; refine (r_clone HR.out).mono ?_; rintro e w3 ⟨go, ho, rfl, Ro, Ko, c3, c4⟩; have HF := hid (four_start HK.out HB.out HQ.out HT.out HKc.out C2.out Ro Ko c4).1; clear Ro Ko c3 c4))
        go_loopw [17] (fun c wr => ∃ k : Nat, k ≤ len2 ∧ c = .int .i64 (k : Int) ∧ ∃ M, Four w wr g h go ho gc hc g' h' wd' L M) (fun c _ => len2 - (intOf c).toNat)
        case atStart => exact ⟨0, by omega, rfl, L, HF.out⟩
        case round =>
          obtain ⟨k, hk, rfl, M, F⟩ := hrel
          have HF2 := hid F
          by_cases hlt : k < len2
          · obtain ⟨gx, o, x, a, b, c, rfl, c0, c1, c2, c3⟩ := (HA2.out.kp F.kp) k hlt
            clear HA2 F HF
            go_wp2_with (go_at_call 21; refine (play_four HF2.out).mono ?_; rintro e w4 ⟨rfl, M4, F4⟩; have HF4 := hid F4; clear F4)
            go_roundw
            case rel => exact ⟨k + 1, by omega, by go_num, M4, HF4.out⟩
            case measure => simp [intOf]; omega
          · obtain rfl : k = len2 := by omega
            clear F
            go_wp2_with (first | (go_at_call 22; refine (lawSame_any HF2.out.b).mono ?_; rintro e w5 ⟨rfl, k5⟩; have HK5 := hid k5; clear k5) | (go_at_call 14; refine (alive_ok _).mono ?_; rintro e w6 ⟨rfl, k6⟩; have HK6 := hid k6; clear k6))
            go_ret
            exact ⟨rfl, (HF2.out.kp.chain HK5.out).chain HK6.out⟩
      · go_wp2_with (first | ((go_at_call 13; with_reducible refine (great_no A _ _ _ hg).mono ?_); rintro e w' ⟨rfl, n1, rfl⟩) | ((go_at_call 13; with_reducible refine (great_no A2 _ _ _ hg3).mono ?_); rintro e w' ⟨rfl, n2, rfl⟩) | (go_at_call 17; refine (clone_any (w := World.drewN _ _) (HB.out.1.drewN _)).mono ?_; rintro e w2 ⟨gc, hc, rfl, Tc, Kc, c1, c2⟩; have HT := hid Tc; have HKc := hid Kc.from_drewN; have HR := hid (HB.out.2.kp Kc.from_drewN (by simp) (by simp)); have C2 := hid c2; clear Tc Kc c1 c2) | (go_at_call 18; refine (r_clone HR.out).mono ?_; rintro e w3 ⟨go, ho, rfl, Ro, Ko, c3, c4⟩; have HF := hid (four_start HK.out HB.out HQ.out HT.out HKc.out C2.out Ro Ko c4).2; clear Ro Ko c3 c4))
        go_loopw [17] (fun c wr => ∃ k : Nat, k ≤ len2 ∧ c = .int .i64 (k : Int) ∧ ∃ M, Four w wr gc hc go ho g h g' h' wd' L M) (fun c _ => len2 - (intOf c).toNat)
        case atStart => exact ⟨0, by omega, rfl, L, HF.out⟩
        case round =>
          obtain ⟨k, hk, rfl, M, F⟩ := hrel
          have HF2 := hid F
          by_cases hlt : k < len2
          · obtain ⟨gx, o, x, a, b, c, rfl, c0, c1, c2, c3⟩ := (HA2.out.kp F.kp) k hlt
            clear HA2 F HF
            go_wp2_with (go_at_call 21; refine (play_four HF2.out).mono ?_; rintro e w4 ⟨rfl, M4, F4⟩; have HF4 := hid F4; clear F4)
            go_roundw
            case rel => exact ⟨k + 1, by omega, by go_num, M4, HF4.out⟩
            case measure => simp [intOf]; omega
          · obtain rfl : k = len2 := by omega
            clear F
            go_wp2_with (first | (go_at_call 22; refine (lawSame_any HF2.out.b).mono ?_; rintro e w5 ⟨rfl, k5⟩; have HK5 := hid k5; clear k5) | (go_at_call 14; refine (alive_ok _).mono ?_; rintro e w6 ⟨rfl, k6⟩; have HK6 := hid k6; clear k6))
            go_ret
            exact ⟨rfl, (HF2.out.kp.chain HK5.out).chain HK6.out⟩
theorem clones_ok (n wd : Int) (A : Option Addr) (len cap : Nat) (A2 : Option Addr) (len2 cap2 : Nat) (cl : Bool) (hA : ActsAt w A len) (hA2 : ActsAt w A2 len2) :
    Calls Try.prog 12 #[.int .i64 n, .int .i64 wd, .slice A len cap, .slice A2 len2 cap2, .bool cl] w (TrueP w) := by
  by_cases hg : 80 < len
  · exact clones_great n wd A A2 len cap len2 cap2 cl hg
  · exact clones_rest n wd A A2 len cap len2 cap2 cl (by omega) hA hA2
end
end Go.Proofs.Ythhgcjbmnkdgjaa
