/-
  The walk of the law SideStuck. Conditions: its slices read as calls, and as numbers.
-/
import Derived.Test.YthhgcjbmnkdgjaaMb
import Derived.Test.YthhgcjbmnkdgjaaLb
namespace Go.Proofs.Ythhgcjbmnkdgjaa
set_option linter.unusedVariables false
set_option linter.unusedSimpArgs false
open Go.RowKit Go.Deep

section
variable {w W W' : World} {g h g' h' wd : Nat} {L M : List Nat}
/-- What Add returns and leaves, in numbers. -/
def Stuck (m : Int) (o v e y d : Int) : Prop := (e = 1 ∧ v = 0 ∧ y = o) ∨ (e = 0 ∧ v = y ∧ 0 ≤ y ∧ y ≤ m ∧ 0 ≤ o ∧ -255 ≤ d ∧ d ≤ 255 ∧ ((o = m ∧ y = m) ∨ (o < m ∧ ((o + d < 0 ∧ y = 0) ∨ (m < o + d ∧ y = m) ∨ (0 < o + d ∧ o + d < m ∧ y = o + d) ∨ (o + d = 0 ∧ y = 0) ∨ (o + d = m ∧ y = m)))))
theorem stuck_add (hL : ∀ k, ent L k < 2 ^ wd) (i d : Int) : Stuck ((most wd : Nat) : Int) (getS L i) (addV wd L i d) (addE L i d) (getS (addL wd L i d) i) d := by
  unfold Stuck
  rcases hok : addOk L i d
  · left
    simp [addV, addE, addL, hok]
  · right
    have h1 := hok
    unfold addOk at h1
    simp only [Bool.and_eq_true] at h1
    obtain ⟨hb, hd⟩ := h1
    have hd2 := of_decide_eq_true hd
    obtain ⟨k, rfl, hk⟩ := hasB_nat hb
    have e0 : addV wd L (k : Int) d = ((addN wd (ent L k) d : Nat) : Int) := by unfold addV; rw [hok]; rfl
    have e1 : addE L (k : Int) d = 0 := by unfold addE; rw [hok]; rfl
    have e2 : addL wd L (k : Int) d = L.set k (addN wd (ent L k) d) := by unfold addL; rw [hok]; rfl
    have e3 : getS L (k : Int) = ((ent L k : Nat) : Int) := by unfold getS; rw [hb]; rfl
    have e4 : getS (L.set k (addN wd (ent L k) d)) (k : Int) = ((addN wd (ent L k) d : Nat) : Int) := by
      unfold getS
      rw [hasB_of (by simpa using hk)]
      simp only [if_true, Int.toNat_natCast]
      rw [ent_set L k _ k hk, if_pos rfl]
    rw [e0, e1, e2, e3, e4]
    have hx := most_of_lt (hL k)
    have hy := addN_le d hx
    refine ⟨rfl, rfl, by omega, by omega, by omega, hd2.1, hd2.2, ?_⟩
    unfold addN
    split
    · left; omega
    · right
      omega
theorem stuck_call (T : STab w g h wd L) (i d : Int) : Calls Try.prog 37 #[.pointer (some ⟨g, 0, none⟩), .int .i64 i, .int .i64 d] w fun e w' => ∃ (v er : Int) (L' : List Nat), e = .returned (.tuple #[.int .i64 v, .int .i64 er]) ∧ STab w' g h wd L' ∧ Kp [h] w w' ∧ Stuck ((most wd : Nat) : Int) (getS L i) v er (getS L' i) d := by
  refine (add_any T i d).mono ?_
  rintro e w' ⟨rfl, T1, K⟩
  exact ⟨_, _, _, rfl, T1, K, stuck_add T.lt i d⟩

/-- What is known at each round. -/
def StR (w : World) (g h wd : Nat) (W : World) : Prop := ∃ L, STab W g h wd L ∧ Kp [] w W
set_option maxRecDepth 100000 in
set_option maxHeartbeats 1000000 in
theorem stuck_great (n wd : Int) (A : Option Addr) (len cap : Nat) (i : Int) (A2 : Option Addr) (len2 cap2 : Nat) (hg : 80 < len) :
    Calls Try.prog 9 #[.int .i64 n, .int .i64 wd, .slice A len cap, .int .i64 i, .slice A2 len2 cap2] w (TrueP w) := by
  go_enter Try.func9, Try.ntmps9
  go_wp2_with (first | (go_at_call 28; refine (made_nil_great _ _ _ _ _ hg).mono ?_; rintro e w1 ⟨rfl, K1⟩; have HK := hid K1; clear K1) | (go_at_call 13; refine (great_yes _ _ _ _ hg).mono ?_; rintro e w' ⟨rfl, n1, rfl⟩) | (go_at_call 14; refine (alive_ok _).mono ?_; rintro e w6 ⟨rfl, k6⟩; have HK6 := hid k6; clear k6))
  go_ret
  exact ⟨rfl, (HK.out.drewN _).chain HK6.out⟩
set_option maxRecDepth 100000 in
set_option maxHeartbeats 4000000 in
theorem stuck_rest (n wd : Int) (A : Option Addr) (len cap : Nat) (i : Int) (A2 : Option Addr) (len2 cap2 : Nat) (hg : len ≤ 80) (hA : ActsAt w A len) (hA2 : IntsIn w A2 len2) :
    Calls Try.prog 9 #[.int .i64 n, .int .i64 wd, .slice A len cap, .int .i64 i, .slice A2 len2 cap2] w (TrueP w) := by
  have HA := hid hA
  have HA2 := hid hA2
  clear hA hA2
  by_cases hg2 : 80 < (len2 : Int)
  · go_enter Try.func9, Try.ntmps9
    go_wp2_with (fail)
    refine (made_any _ _ _ _ _ HA.out).mono ?_
    rintro e w1 ⟨K1, rfl | ⟨g, h, g', h', wd', L, rfl, B, rfl, rfl, q1, q2, q3, q4⟩⟩
    all_goals
      have HK := hid K1
      clear K1
      go_wp2_with (first | (go_at_call 13; refine (great_no _ _ _ _ hg).mono ?_; rintro e w' ⟨rfl, n1, rfl⟩) | (go_at_call 14; refine (alive_ok _).mono ?_; rintro e w6 ⟨rfl, k6⟩; have HK6 := hid k6; clear k6))
      go_ret
      exact ⟨rfl, (HK.out.drewN _).chain HK6.out⟩
  · have hg3 : (len2 : Int) ≤ 80 := by omega
    clear hg2
    go_enter Try.func9, Try.ntmps9
    go_wp2_with (fail)
    refine (made_any _ _ _ _ _ HA.out).mono ?_
    rintro e w1 ⟨K1, rfl | ⟨g, h, g', h', wd', L, rfl, B, rfl, rfl, q1, q2, q3, q4⟩⟩
    · have HK := hid K1
      clear K1
      go_wp2_with (first | (go_at_call 13; refine (great_no _ _ _ _ hg).mono ?_; rintro e w' ⟨rfl, n1, rfl⟩) | (go_at_call 14; refine (alive_ok _).mono ?_; rintro e w6 ⟨rfl, k6⟩; have HK6 := hid k6; clear k6))
      go_ret
      exact ⟨rfl, (HK.out.drewN _).chain HK6.out⟩
    · have HS := hid (show StR w g h wd' w1 from ⟨L, B.1, K1⟩)
      have HT := hid B.1
      have HQ : Hid (w.heap.size ≤ h) := q2
      have hw := B.1.wd_ok
      clear K1 B q1 q2 q3 q4
      rcases hw with rfl | rfl | rfl | rfl
      · go_wp2_with (first | (go_at_call 13; refine (great_no _ _ _ _ hg).mono ?_; rintro e w' ⟨rfl, n1, rfl⟩) | (go_at_call 26; refine (width_any (HT.out.drewN _)).mono ?_; rintro e w' ⟨rfl, n2, rfl⟩))
        go_loopw [14] (fun c wr => ∃ k : Nat, k ≤ len2 ∧ c = .int .i64 (k : Int) ∧ StR w g h 1 wr) (fun c _ => len2 - (intOf c).toNat)
        case atStart => exact ⟨0, by omega, rfl, L, HT.out.drewN _, by obtain ⟨_, _, K⟩ := HS.out; exact K.drewN _⟩
        case round =>
          obtain ⟨k, hk, rfl, L1, T1, K1⟩ := hrel
          have HT1 := hid T1
          have HK1 := hid K1
          clear HS HT
          by_cases hlt : k < len2
          · obtain ⟨gx, ox, d, rfl, cw⟩ := HA2.out k hlt
            have CW := hid cw
            have c0 := cell_kp K1 cw
            clear HA2 T1 K1 cw
            go_wp2_with (fail)
            refine (get_any HT1.out i).mono ?_
            rintro e w2 ⟨rfl, n3, rfl⟩
            go_wp2_with (fail)
            refine (stuck_call (HT1.out.drewN n3) i d).mono ?_
            rintro e w3 ⟨v, er, L2, rfl, T2, K2, hst⟩
            have HT2 := hid T2
            have HK2 := hid (HK1.out.trans ((Kp.draw _ _).trans K2 (U := [h]) (by simp) (by simp)) (U := []) (by simp) (by simpa using HQ.out))
            clear T2 K2
            go_wp2_with (fail)
            refine (get_any HT2.out i).mono ?_
            rintro e w4 ⟨rfl, n4, rfl⟩
            generalize getS L1 i = o at *
            generalize getS L2 i = y at *
            have hm : ((most 1 : Nat) : Int) = 1 := by decide
            rw [hm] at hst
            clear hm
            rcases hst with ⟨rfl, rfl, rfl⟩ | ⟨rfl, rfl, h1, h2, h3, h4, h5, ⟨rfl, rfl⟩ | ⟨h6, hst⟩⟩
            · go_wp2
              go_roundw
              case rel => exact ⟨k + 1, by omega, by go_num, L2, HT2.out.drewN _, HK2.out.drewN _⟩
              case measure => simp [intOf]; omega
            · go_wp2
              go_roundw
              case rel => exact ⟨k + 1, by omega, by go_num, L2, HT2.out.drewN _, HK2.out.drewN _⟩
              case measure => simp [intOf]; omega
            have e1 : (o == 1) = false := beq_eq_false_iff_ne.2 (by omega)
            have e2 : (o != 1) = true := bne_iff_ne.2 (by omega)
            have c3 := cell_kp HK2.out CW.out
            rcases hst with ⟨h7, rfl⟩ | ⟨h7, rfl⟩ | ⟨h7, h8, rfl⟩ | ⟨h7, rfl⟩ | ⟨h7, rfl⟩
            all_goals try (exfalso; omega)
            all_goals
              go_wp2
              go_roundw
              case rel => exact ⟨k + 1, by omega, by go_num, L2, HT2.out.drewN _, HK2.out.drewN _⟩
              case measure => simp [intOf]; omega
          · obtain rfl : k = len2 := by omega
            clear T1 K1
            go_wp2_with (go_at_call 14; refine (alive_ok _).mono ?_; rintro e w6 ⟨rfl, k6⟩; have HK6 := hid k6; clear k6)
            go_ret
            exact ⟨rfl, HK1.out.chain HK6.out⟩
      · go_wp2_with (first | (go_at_call 13; refine (great_no _ _ _ _ hg).mono ?_; rintro e w' ⟨rfl, n1, rfl⟩) | (go_at_call 26; refine (width_any (HT.out.drewN _)).mono ?_; rintro e w' ⟨rfl, n2, rfl⟩))
        go_loopw [14] (fun c wr => ∃ k : Nat, k ≤ len2 ∧ c = .int .i64 (k : Int) ∧ StR w g h 2 wr) (fun c _ => len2 - (intOf c).toNat)
        case atStart => exact ⟨0, by omega, rfl, L, HT.out.drewN _, by obtain ⟨_, _, K⟩ := HS.out; exact K.drewN _⟩
        case round =>
          obtain ⟨k, hk, rfl, L1, T1, K1⟩ := hrel
          have HT1 := hid T1
          have HK1 := hid K1
          clear HS HT
          by_cases hlt : k < len2
          · obtain ⟨gx, ox, d, rfl, cw⟩ := HA2.out k hlt
            have CW := hid cw
            have c0 := cell_kp K1 cw
            clear HA2 T1 K1 cw
            go_wp2_with (fail)
            refine (get_any HT1.out i).mono ?_
            rintro e w2 ⟨rfl, n3, rfl⟩
            go_wp2_with (fail)
            refine (stuck_call (HT1.out.drewN n3) i d).mono ?_
            rintro e w3 ⟨v, er, L2, rfl, T2, K2, hst⟩
            have HT2 := hid T2
            have HK2 := hid (HK1.out.trans ((Kp.draw _ _).trans K2 (U := [h]) (by simp) (by simp)) (U := []) (by simp) (by simpa using HQ.out))
            clear T2 K2
            go_wp2_with (fail)
            refine (get_any HT2.out i).mono ?_
            rintro e w4 ⟨rfl, n4, rfl⟩
            generalize getS L1 i = o at *
            generalize getS L2 i = y at *
            have hm : ((most 2 : Nat) : Int) = 3 := by decide
            rw [hm] at hst
            clear hm
            rcases hst with ⟨rfl, rfl, rfl⟩ | ⟨rfl, rfl, h1, h2, h3, h4, h5, ⟨rfl, rfl⟩ | ⟨h6, hst⟩⟩
            · go_wp2
              go_roundw
              case rel => exact ⟨k + 1, by omega, by go_num, L2, HT2.out.drewN _, HK2.out.drewN _⟩
              case measure => simp [intOf]; omega
            · go_wp2
              go_roundw
              case rel => exact ⟨k + 1, by omega, by go_num, L2, HT2.out.drewN _, HK2.out.drewN _⟩
              case measure => simp [intOf]; omega
            have e1 : (o == 3) = false := beq_eq_false_iff_ne.2 (by omega)
            have e2 : (o != 3) = true := bne_iff_ne.2 (by omega)
            have c3 := cell_kp HK2.out CW.out
            rcases hst with ⟨h7, rfl⟩ | ⟨h7, rfl⟩ | ⟨h7, h8, rfl⟩ | ⟨h7, rfl⟩ | ⟨h7, rfl⟩
            all_goals try (exfalso; omega)
            all_goals
              go_wp2
              go_roundw
              case rel => exact ⟨k + 1, by omega, by go_num, L2, HT2.out.drewN _, HK2.out.drewN _⟩
              case measure => simp [intOf]; omega
          · obtain rfl : k = len2 := by omega
            clear T1 K1
            go_wp2_with (go_at_call 14; refine (alive_ok _).mono ?_; rintro e w6 ⟨rfl, k6⟩; have HK6 := hid k6; clear k6)
            go_ret
            exact ⟨rfl, HK1.out.chain HK6.out⟩
      · go_wp2_with (first | (go_at_call 13; refine (great_no _ _ _ _ hg).mono ?_; rintro e w' ⟨rfl, n1, rfl⟩) | (go_at_call 26; refine (width_any (HT.out.drewN _)).mono ?_; rintro e w' ⟨rfl, n2, rfl⟩))
        go_loopw [14] (fun c wr => ∃ k : Nat, k ≤ len2 ∧ c = .int .i64 (k : Int) ∧ StR w g h 4 wr) (fun c _ => len2 - (intOf c).toNat)
        case atStart => exact ⟨0, by omega, rfl, L, HT.out.drewN _, by obtain ⟨_, _, K⟩ := HS.out; exact K.drewN _⟩
        case round =>
          obtain ⟨k, hk, rfl, L1, T1, K1⟩ := hrel
          have HT1 := hid T1
          have HK1 := hid K1
          clear HS HT
          by_cases hlt : k < len2
          · obtain ⟨gx, ox, d, rfl, cw⟩ := HA2.out k hlt
            have CW := hid cw
            have c0 := cell_kp K1 cw
            clear HA2 T1 K1 cw
            go_wp2_with (fail)
            refine (get_any HT1.out i).mono ?_
            rintro e w2 ⟨rfl, n3, rfl⟩
            go_wp2_with (fail)
            refine (stuck_call (HT1.out.drewN n3) i d).mono ?_
            rintro e w3 ⟨v, er, L2, rfl, T2, K2, hst⟩
            have HT2 := hid T2
            have HK2 := hid (HK1.out.trans ((Kp.draw _ _).trans K2 (U := [h]) (by simp) (by simp)) (U := []) (by simp) (by simpa using HQ.out))
            clear T2 K2
            go_wp2_with (fail)
            refine (get_any HT2.out i).mono ?_
            rintro e w4 ⟨rfl, n4, rfl⟩
            generalize getS L1 i = o at *
            generalize getS L2 i = y at *
            have hm : ((most 4 : Nat) : Int) = 15 := by decide
            rw [hm] at hst
            clear hm
            rcases hst with ⟨rfl, rfl, rfl⟩ | ⟨rfl, rfl, h1, h2, h3, h4, h5, ⟨rfl, rfl⟩ | ⟨h6, hst⟩⟩
            · go_wp2
              go_roundw
              case rel => exact ⟨k + 1, by omega, by go_num, L2, HT2.out.drewN _, HK2.out.drewN _⟩
              case measure => simp [intOf]; omega
            · go_wp2
              go_roundw
              case rel => exact ⟨k + 1, by omega, by go_num, L2, HT2.out.drewN _, HK2.out.drewN _⟩
              case measure => simp [intOf]; omega
            have e1 : (o == 15) = false := beq_eq_false_iff_ne.2 (by omega)
            have e2 : (o != 15) = true := bne_iff_ne.2 (by omega)
            have c3 := cell_kp HK2.out CW.out
            rcases hst with ⟨h7, rfl⟩ | ⟨h7, rfl⟩ | ⟨h7, h8, rfl⟩ | ⟨h7, rfl⟩ | ⟨h7, rfl⟩
            all_goals try (exfalso; omega)
            all_goals
              go_wp2
              go_roundw
              case rel => exact ⟨k + 1, by omega, by go_num, L2, HT2.out.drewN _, HK2.out.drewN _⟩
              case measure => simp [intOf]; omega
          · obtain rfl : k = len2 := by omega
            clear T1 K1
            go_wp2_with (go_at_call 14; refine (alive_ok _).mono ?_; rintro e w6 ⟨rfl, k6⟩; have HK6 := hid k6; clear k6)
            go_ret
            exact ⟨rfl, HK1.out.chain HK6.out⟩
      · go_wp2_with (first | (go_at_call 13; refine (great_no _ _ _ _ hg).mono ?_; rintro e w' ⟨rfl, n1, rfl⟩) | (go_at_call 26; refine (width_any (HT.out.drewN _)).mono ?_; rintro e w' ⟨rfl, n2, rfl⟩))
        go_loopw [14] (fun c wr => ∃ k : Nat, k ≤ len2 ∧ c = .int .i64 (k : Int) ∧ StR w g h 8 wr) (fun c _ => len2 - (intOf c).toNat)
        case atStart => exact ⟨0, by omega, rfl, L, HT.out.drewN _, by obtain ⟨_, _, K⟩ := HS.out; exact K.drewN _⟩
        case round =>
          obtain ⟨k, hk, rfl, L1, T1, K1⟩ := hrel
          have HT1 := hid T1
          have HK1 := hid K1
          clear HS HT
          by_cases hlt : k < len2
          · obtain ⟨gx, ox, d, rfl, cw⟩ := HA2.out k hlt
            have CW := hid cw
            have c0 := cell_kp K1 cw
            clear HA2 T1 K1 cw
            go_wp2_with (fail)
            refine (get_any HT1.out i).mono ?_
            rintro e w2 ⟨rfl, n3, rfl⟩
            go_wp2_with (fail)
            refine (stuck_call (HT1.out.drewN n3) i d).mono ?_
            rintro e w3 ⟨v, er, L2, rfl, T2, K2, hst⟩
            have HT2 := hid T2
            have HK2 := hid (HK1.out.trans ((Kp.draw _ _).trans K2 (U := [h]) (by simp) (by simp)) (U := []) (by simp) (by simpa using HQ.out))
            clear T2 K2
            go_wp2_with (fail)
            refine (get_any HT2.out i).mono ?_
            rintro e w4 ⟨rfl, n4, rfl⟩
            generalize getS L1 i = o at *
            generalize getS L2 i = y at *
            have hm : ((most 8 : Nat) : Int) = 255 := by decide
            rw [hm] at hst
            clear hm
            rcases hst with ⟨rfl, rfl, rfl⟩ | ⟨rfl, rfl, h1, h2, h3, h4, h5, ⟨rfl, rfl⟩ | ⟨h6, hst⟩⟩
            · go_wp2
              go_roundw
              case rel => exact ⟨k + 1, by omega, by go_num, L2, HT2.out.drewN _, HK2.out.drewN _⟩
              case measure => simp [intOf]; omega
            · go_wp2
              go_roundw
              case rel => exact ⟨k + 1, by omega, by go_num, L2, HT2.out.drewN _, HK2.out.drewN _⟩
              case measure => simp [intOf]; omega
            have e1 : (o == 255) = false := beq_eq_false_iff_ne.2 (by omega)
            have e2 : (o != 255) = true := bne_iff_ne.2 (by omega)
            have c3 := cell_kp HK2.out CW.out
            rcases hst with ⟨h7, rfl⟩ | ⟨h7, rfl⟩ | ⟨h7, h8, rfl⟩ | ⟨h7, rfl⟩ | ⟨h7, rfl⟩
            all_goals try (exfalso; omega)
            all_goals
              go_wp2
              go_roundw
              case rel => exact ⟨k + 1, by omega, by go_num, L2, HT2.out.drewN _, HK2.out.drewN _⟩
              case measure => simp [intOf]; omega
          · obtain rfl : k = len2 := by omega
            clear T1 K1
            go_wp2_with (go_at_call 14; refine (alive_ok _).mono ?_; rintro e w6 ⟨rfl, k6⟩; have HK6 := hid k6; clear k6)
            go_ret
            exact ⟨rfl, HK1.out.chain HK6.out⟩
theorem stuck_ok (n wd : Int) (A : Option Addr) (len cap : Nat) (i : Int) (A2 : Option Addr) (len2 cap2 : Nat) (hA : ActsAt w A len) (hA2 : IntsIn w A2 len2) :
    Calls Try.prog 9 #[.int .i64 n, .int .i64 wd, .slice A len cap, .int .i64 i, .slice A2 len2 cap2] w (TrueP w) := by
  by_cases hg : 80 < len
  · exact stuck_great n wd A len cap i A2 len2 cap2 hg
  · exact stuck_rest n wd A len cap i A2 len2 cap2 (by omega) hA hA2
end
end Go.Proofs.Ythhgcjbmnkdgjaa
