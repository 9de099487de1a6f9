/-
  The walk of the law SideEntries. Conditions: its slice reads as calls.
-/
import Derived.Test.YthhgcjbmnkdgjaaMb
import Derived.Test.YthhgcjbmnkdgjaaMc
namespace Go.Proofs.Ythhgcjbmnkdgjaa
set_option linter.unusedVariables false
set_option linter.unusedSimpArgs false
open Go.RowKit Go.Deep

theorem fillN_at (L : List Nat) (a n v k : Nat) (h : a + n ≤ L.length) : ent (fillN L a n v) k = if a ≤ k ∧ k < a + n then v else ent L k := by
  induction n with
  | zero => rw [if_neg (by omega)]; rfl
  | succ n ih =>
    rw [fillN, ent_set _ _ _ _ (by rw [fillN_length]; omega), ih (by omega)]
    by_cases h1 : k = a + n
    · subst h1; rw [if_pos rfl, if_pos (by omega)]
    · rw [if_neg h1]
      by_cases h2 : a ≤ k ∧ k < a + n
      · rw [if_pos h2, if_pos (by omega)]
      · rw [if_neg h2, if_neg (by omega)]
section
variable {w W W' : World} {g h g' h' wd : Nat} {L M : List Nat}
def SetF (L L1 : List Nat) (i v er : Int) : Prop := (er = 1 ∧ L1 = L) ∨ (er = 0 ∧ ∃ k x : Nat, i = (k : Int) ∧ v = (x : Int) ∧ k < L.length ∧ L1 = L.set k x)
theorem set_cases (T : STab w g h wd L) (i v : Int) : Calls Try.prog 31 #[.pointer (some ⟨g, 0, none⟩), .int .i64 i, .int .i64 v] w fun e w' => ∃ er L1, e = .returned (.int .i64 er) ∧ STab w' g h wd L1 ∧ Kp [h] w w' ∧ SetF L L1 i v er := by
  refine (set_any T i v).mono ?_
  rintro e w' ⟨rfl, T1, K⟩
  refine ⟨_, _, rfl, T1, K, ?_⟩
  unfold setE setL SetF
  rcases hok : setOk wd L i v
  · exact .inl ⟨rfl, rfl⟩
  · right
    unfold setOk at hok
    simp only [Bool.and_eq_true] at hok
    obtain ⟨k, rfl, hk⟩ := hasB_nat hok.1
    obtain ⟨x, rfl, hx⟩ := fitsB_nat hok.2
    exact ⟨rfl, k, x, rfl, rfl, hk, rfl⟩
def FillF (L L1 : List Nat) (i n v er : Int) : Prop := (er = 1 ∧ L1 = L) ∨ (er = 0 ∧ ∃ a z x : Nat, i = (a : Int) ∧ n = (z : Int) ∧ v = (x : Int) ∧ 1 ≤ z ∧ a + z ≤ L.length ∧ L1 = fillN L a z x)
theorem fill_cases (T : STab w g h wd L) (i n v : Int) : Calls Try.prog 32 #[.pointer (some ⟨g, 0, none⟩), .int .i64 i, .int .i64 n, .int .i64 v] w fun e w' => ∃ er L1, e = .returned (.int .i64 er) ∧ STab w' g h wd L1 ∧ Kp [h] w w' ∧ FillF L L1 i n v er := by
  refine (fill_any T i n v).mono ?_
  rintro e w' ⟨rfl, T1, K⟩
  refine ⟨_, _, rfl, T1, K, ?_⟩
  unfold fillE fillL FillF
  rcases hok : fillOk wd L i n v
  · exact .inl ⟨rfl, rfl⟩
  · right
    unfold fillOk at hok
    simp only [Bool.and_eq_true] at hok
    have hc := of_decide_eq_true hok.1
    obtain ⟨x, rfl, hx⟩ := fitsB_nat hok.2
    exact ⟨rfl, i.toNat, n.toNat, x, by omega, by omega, rfl, by omega, by omega, rfl⟩
/-- What is carried: the table, and the lists that were taken of it. -/
structure Lists (w W : World) (g h wd : Nat) (L : List Nat) (v : Value) (M : List Nat) : Prop where
  tab : STab W g h wd L
  lst : IntsFar W (h + 1) v M
  kp : Kp [] w W
  new : w.heap.size ≤ h
theorem Lists.drewN {v : Value} (l : Lists w W g h wd L v M) (n : Nat) : Lists w (W.drewN n) g h wd L v M := ⟨l.tab, l.lst.kp (Kp.draw _ _) (by simp), l.kp.drewN n, l.new⟩
theorem IntsFar.mono {w : World} {B B' : Nat} {v : Value} {L : List Nat} (h : IntsFar w B v L) (hb : B' ≤ B) : IntsFar w B' v L := by
  obtain ⟨A, cap, e, hA⟩ := h
  exact ⟨A, cap, e, fun i hi => by obtain ⟨g, h1, h2, h3⟩ := hA i hi; exact ⟨g, h1, by omega, h3⟩⟩
theorem Lists.first {v : Value} (T : STab W g h wd L) (kp : Kp [] w W) (new : w.heap.size ≤ h) (I : IntsFar W' W.heap.size v L) (K : Kp [] W W') : Lists w W' g h wd L v L :=
  ⟨T.kp K (by simp) (by simp), I.mono T.h_lt, kp.chain K, new⟩
theorem Lists.change {v : Value} {N : List Nat} (l : Lists w W g h wd L v M) (T : STab W' g h wd N) (K : Kp [h] W W') : Lists w W' g h wd N v M :=
  ⟨T, l.lst.kp K (by simp), l.kp.trans K (by simp) (by simpa using l.new), l.new⟩
theorem Lists.again {v v2 : Value} (l : Lists w W g h wd L v M) (I : IntsFar W' W.heap.size v2 L) (K : Kp [] W W') : Lists w W' g h wd L v M ∧ Lists w W' g h wd L v2 L :=
  ⟨⟨l.tab.kp K (by simp) (by simp), l.lst.kp K (by simp), l.kp.chain K, l.new⟩, Lists.first l.tab l.kp l.new I K⟩

set_option maxRecDepth 100000 in
set_option maxHeartbeats 1000000 in
theorem entries_great (n wd : Int) (A : Option Addr) (len cap : Nat) (i z v : Int) (hg : 80 < len) :
    Calls Try.prog 6 #[.int .i64 n, .int .i64 wd, .slice A len cap, .int .i64 i, .int .i64 z, .int .i64 v] w (TrueP w) := by
  go_enter Try.func6, Try.ntmps6
  go_wp2_with (first | (go_at_call 28; refine (made_nil_great _ _ _ _ _ hg).mono ?_; rintro e w1 ⟨rfl, K1⟩; have HK := hid K1; clear K1) | (go_at_call 13; refine (great_yes _ _ _ _ hg).mono ?_; rintro e w' ⟨rfl, n1, rfl⟩) | (go_at_call 14; refine (alive_ok _).mono ?_; rintro e w6 ⟨rfl, k6⟩; have HK6 := hid k6; clear k6))
  go_ret
  exact ⟨rfl, (HK.out.drewN _).chain HK6.out⟩

set_option maxRecDepth 100000 in
set_option maxHeartbeats 4000000 in
theorem entries_rest (n wd : Int) (A : Option Addr) (len cap : Nat) (i z v : Int) (hg : len ≤ 80) (hA : ActsAt w A len) :
    Calls Try.prog 6 #[.int .i64 n, .int .i64 wd, .slice A len cap, .int .i64 i, .int .i64 z, .int .i64 v] w (TrueP w) := by
  have HA := hid hA
  clear hA
  go_enter Try.func6, Try.ntmps6
  go_wp2_with (fail)
  refine (made_any _ _ _ _ _ HA.out).mono ?_
  rintro e w1 ⟨K1, rfl | ⟨g, h, g', h', wd', L, rfl, B, rfl, rfl, q1, q2, q3, q4⟩⟩
  · have HK := hid K1
    clear K1
    go_wp2_with (first | (go_at_call 13; refine (great_no _ _ _ _ hg).mono ?_; rintro e w' ⟨rfl, n1, rfl⟩) | (go_at_call 14; refine (alive_ok _).mono ?_; rintro e w6 ⟨rfl, k6⟩; have HK6 := hid k6; clear k6))
    go_ret
    exact ⟨rfl, (HK.out.drewN _).chain HK6.out⟩
  · have HT := hid B.1
    have HK := hid K1
    have HQ : Hid (w.heap.size ≤ h) := q2
    have hle := B.1.le
    clear K1 B q1 q2 q3 q4
    go_wp2_with (first | (go_at_call 13; refine (great_no _ _ _ _ hg).mono ?_; rintro e w' ⟨rfl, n1, rfl⟩) | (go_at_call 30; refine (law_entries (HT.out.drewN n1)).mono ?_; rintro e w2 ⟨v2, rfl, I2, K2⟩; have HL := hid (Lists.first (HT.out.drewN n1) (HK.out.drewN n1) HQ.out I2 K2); clear I2 K2 HT HK))
    refine (set_cases HL.out.tab i v).mono ?_
    rintro e w3 ⟨er, L1, rfl, T3, K3, hs⟩
    have HL3 := hid (HL.out.change T3 K3)
    clear T3 K3 HL
    have HS := hid hs
    have hlen : Hid (L1.length = L.length) := by
      rcases hs with ⟨_, rfl⟩ | ⟨_, k, x, _, _, _, rfl⟩
      · rfl
      · show _ = _; simp
    have her : er = 0 ∨ er = 1 := by rcases hs with ⟨rfl, _⟩ | ⟨rfl, _⟩ <;> simp
    have HGV : Hid (er = 0 → getS L1 i = v) := fun he => by
      rcases hs with ⟨h1, _⟩ | ⟨_, k, x, rfl, rfl, hk, rfl⟩
      · exact absurd (he.symm.trans h1) (by decide)
      · rw [getS_at (by simpa using hk), ent_set _ _ _ _ hk, if_pos rfl]
    clear hs
    go_wp2_with (fail)
    refine (law_entries HL3.out.tab).mono ?_
    rintro e w4 ⟨v4, rfl, I4, K4⟩
    have HP := hid (HL3.out.again I4 K4)
    clear I4 K4 HL3
    obtain ⟨A2, c2, rfl, hA2⟩ := HP.out.1.lst
    obtain ⟨A4, c4, rfl, hA4⟩ := HP.out.2.lst
    rw [hlen.out] at hA4 HP ⊢
    have HA2 := hid hA2
    have HA4 := hid hA4
    clear hA2 hA4
    rcases her with rfl | rfl
    all_goals
      go_wp2
      go_loopw [18] (fun c wr => ∃ k n : Nat, k ≤ L.length ∧ c = .int .i64 (k : Int) ∧ wr = w4.drewN n) (fun c _ => L.length - (intOf c).toNat)
      case atStart => exact ⟨0, 0, by omega, rfl, rfl⟩
      case round =>
        obtain ⟨k, nn, hk, rfl, rfl⟩ := hrel
        by_cases hlt : k < L.length
        · obtain ⟨y2, rfl, _, b2⟩ := HA2.out k hlt
          obtain ⟨y4, rfl, _, b4⟩ := HA4.out k hlt
          clear HA2 HA4
          by_cases hq : ent L1 k = ent L k
          · rw [hq] at b4
            generalize ent L k = y at *
            clear hq
            go_wp2
            go_quiet (fail)
            go_wp2
            go_roundw
            case rel => exact ⟨k + 1, _, by omega, by go_num, rfl⟩
            case measure => simp [intOf]; omega
          · rcases HS.out with ⟨he, hL⟩ | ⟨he, k0, x0, hi, hv, hk0, hL⟩
            · exact absurd (by rw [hL]) hq
            · by_cases hk2 : k = k0
              · first
                | exact absurd he (by decide)
                | (clear HS HP HQ HGV
                   subst hk2
                   subst hi
                   have hne : (((ent L1 k : Nat) : Int) != ((ent L k : Nat) : Int)) = true := bne_iff_ne.2 (by omega)
                   generalize ent L k = y at *
                   generalize ent L1 k = y1 at *
                   clear hq hv hL he
                   go_wp2
                   go_quiet (fail)
                   go_wp2
                   go_roundw
                   case rel => exact ⟨k + 1, _, by omega, by go_num, rfl⟩
                   case measure => simp [intOf]; omega)
              · exact absurd (by rw [hL, ent_set _ _ _ _ hk0, if_neg hk2]) hq
        · obtain rfl : k = L.length := by omega
          go_wp2_with (go_at_call 24; refine (get_any (HP.out.2.drewN _).tab i).mono ?_; rw [HGV.out (by simp)]; rintro e w' ⟨rfl, n2, rfl⟩)
          refine (fill_cases (HP.out.2.drewN _).tab i z v).mono ?_
          rintro e w5 ⟨fr, L2, rfl, T5, K5, hf⟩
          have HL5 := hid ((HP.out.2.drewN _).change T5 K5)
          clear T5 K5 HP HA2
          have HF := hid hf
          have hlen2 : Hid (L2.length = L.length) := by
            rcases hf with ⟨_, rfl⟩ | ⟨_, k, x, _, _, _, _, _, _, rfl⟩
            · exact hlen
            · show _ = _; rw [fillN_length]; exact hlen.out
          have hfr : fr = 0 ∨ fr = 1 := by rcases hf with ⟨rfl, _⟩ | ⟨rfl, _⟩ <;> simp
          clear hf
          go_wp2_with (fail)
          refine (law_entries HL5.out.tab).mono ?_
          rintro e w7 ⟨v7, rfl, I7, K7⟩
          have HP7 := hid (HL5.out.again I7 K7)
          clear I7 K7 HL5
          obtain ⟨A5, c5, h5, hA5⟩ := HP7.out.1.lst
          obtain ⟨A7, c7, rfl, hA7⟩ := HP7.out.2.lst
          injection h5 with h5 h6 h7
          subst h5
          rw [hlen.out] at hA5
          rw [hlen2.out] at hA7 ⊢
          have HA5 := hid hA5
          have HA7 := hid hA7
          clear hA5 hA7 h6 h7 HA4
          have HK7 := hid HP7.out.1.kp
          clear HP7
          have HEQ : Hid (fr = 1 → L2 = L1) := fun h1 => by
            rcases HF.out with ⟨_, e⟩ | ⟨h0, _⟩
            · exact e
            · exact absurd (h0.symm.trans h1) (by decide)
          rcases hfr with rfl | rfl
          · obtain ⟨ai, zi, xi, rfl, rfl, rfl, z1, z2, hL2⟩ : ∃ a z' x : Nat, i = (a : Int) ∧ z = (z' : Int) ∧ v = (x : Int) ∧ 1 ≤ z' ∧ a + z' ≤ L.length ∧ L2 = fillN L1 a z' x := by
              rcases HF.out with ⟨h0, _⟩ | ⟨_, a, z', x, h1, h2, h3, h4, h5, h6⟩
              · exact absurd h0 (by decide)
              · exact ⟨a, z', x, h1, h2, h3, h4, by rw [← hlen.out]; exact h5, h6⟩
            have HL2 := hid hL2
            have HZ := hid z2
            clear hL2 HF HEQ HS HGV
            go_wp2
            go_loopw [20] (fun c wr => ∃ k n : Nat, k ≤ L.length ∧ c = .int .i64 (k : Int) ∧ wr = w7.drewN n) (fun c _ => L.length - (intOf c).toNat)
            case atStart => exact ⟨0, 0, by omega, rfl, rfl⟩
            case round =>
              obtain ⟨k, nn, hk, rfl, rfl⟩ := hrel
              by_cases hlt : k < L.length
              · obtain ⟨y5, rfl, _, b5⟩ := HA5.out k hlt
                obtain ⟨y7, rfl, _, b7⟩ := HA7.out k hlt
                clear HA5 HA7
                rw [HL2.out, fillN_at _ _ _ _ _ (by rw [hlen.out]; exact HZ.out)] at b7
                by_cases hin : ai ≤ k ∧ k < ai + zi
                · rw [if_pos hin] at b7
                  obtain ⟨i1, i2⟩ := hin
                  have i3 : decide ((k : Int) - (ai : Int) < (zi : Int)) = true := decide_eq_true (by omega)
                  by_cases hq : xi = ent L1 k
                  · rw [← hq] at b5
                    clear hq HL2
                    go_wp2
                    go_quiet (fail)
                    go_wp2
                    go_roundw
                    case rel => exact ⟨k + 1, _, by omega, by go_num, rfl⟩
                    case measure => simp [intOf]; omega
                  · have hne : ((xi : Int) != ((ent L1 k : Nat) : Int)) = true := bne_iff_ne.2 (by omega)
                    generalize ent L1 k = y at *
                    clear hq HL2
                    go_wp2
                    go_quiet (fail)
                    go_wp2
                    go_roundw
                    case rel => exact ⟨k + 1, _, by omega, by go_num, rfl⟩
                    case measure => simp [intOf]; omega
                · rw [if_neg hin] at b7
                  generalize ent L1 k = y at *
                  clear HL2
                  by_cases i1 : ai ≤ k
                  · have i2 : ai + zi ≤ k := by omega
                    have i3 : decide ((k : Int) - (ai : Int) < (zi : Int)) = false := decide_eq_false (by omega)
                    clear hin
                    go_wp2
                    go_quiet (fail)
                    go_wp2
                    go_roundw
                    case rel => exact ⟨k + 1, _, by omega, by go_num, rfl⟩
                    case measure => simp [intOf]; omega
                  · clear hin
                    go_wp2
                    go_quiet (fail)
                    go_wp2
                    go_roundw
                    case rel => exact ⟨k + 1, _, by omega, by go_num, rfl⟩
                    case measure => simp [intOf]; omega
              · obtain rfl : k = L.length := by omega
                go_wp2_with ((go_at_call 14; refine (alive_ok _).mono ?_; rintro e w6 ⟨rfl, k6⟩; have HK6 := hid k6; clear k6))
                go_ret
                exact ⟨rfl, (HK7.out.drewN _).chain HK6.out⟩
          · have HE7 := hid (HEQ.out rfl)
            clear HF HEQ HS HGV
            go_wp2
            go_loopw [20] (fun c wr => ∃ k n : Nat, k ≤ L.length ∧ c = .int .i64 (k : Int) ∧ wr = w7.drewN n) (fun c _ => L.length - (intOf c).toNat)
            case atStart => exact ⟨0, 0, by omega, rfl, rfl⟩
            case round =>
              obtain ⟨k, nn, hk, rfl, rfl⟩ := hrel
              by_cases hlt : k < L.length
              · obtain ⟨y5, rfl, _, b5⟩ := HA5.out k hlt
                obtain ⟨y7, rfl, _, b7⟩ := HA7.out k hlt
                clear HA5 HA7
                rw [HE7.out] at b7
                generalize ent L1 k = y at *
                by_cases i1 : i ≤ (k : Int)
                all_goals
                  go_wp2
                  all_goals
                    go_quiet (fail)
                    go_wp2
                    go_roundw
                    case rel => exact ⟨k + 1, _, by omega, by go_num, rfl⟩
                    case measure => simp [intOf]; omega
              · obtain rfl : k = L.length := by omega
                go_wp2_with ((go_at_call 14; refine (alive_ok _).mono ?_; rintro e w6 ⟨rfl, k6⟩; have HK6 := hid k6; clear k6))
                go_ret
                exact ⟨rfl, (HK7.out.drewN _).chain HK6.out⟩
theorem entries_ok (n wd : Int) (A : Option Addr) (len cap : Nat) (i z v : Int) (hA : ActsAt w A len) :
    Calls Try.prog 6 #[.int .i64 n, .int .i64 wd, .slice A len cap, .int .i64 i, .int .i64 z, .int .i64 v] w (TrueP w) := by
  by_cases hg : 80 < len
  · exact entries_great n wd A len cap i z v hg
  · exact entries_rest n wd A len cap i z v (by omega) hA
end
end Go.Proofs.Ythhgcjbmnkdgjaa
