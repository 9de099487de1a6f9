/-
  The walk of the law SideFound. Conditions: its slice reads as calls.
-/
import Derived.Test.YthhgcjbmnkdgjaaMb
import Derived.Test.YthhgcjbmnkdgjaaMc
namespace Go.Proofs.Ythhgcjbmnkdgjaa
set_option linter.unusedVariables false
set_option linter.unusedSimpArgs false
open Go.RowKit Go.Deep

def NextF (L : List Nat) (a v : Int) (x e : Int) : Prop :=
  (e = 0 ∧ ∃ k : Nat, x = (k : Int) ∧ k < L.length ∧ a ≤ (k : Int) ∧ ((ent L k : Nat) : Int) = v ∧ ∀ j, j < k → a ≤ (j : Int) → ((ent L j : Nat) : Int) ≠ v) ∨ (e = 4 ∧ x = 0 ∧ ∀ j, j < L.length → a ≤ (j : Int) → ((ent L j : Nat) : Int) ≠ v)
theorem nextF (L : List Nat) (a v : Int) : NextF L a v (nextV L a v) (nextE L a v) := by
  unfold nextV nextE NextF
  rcases h : leastN (nextP L a v) L.length with _ | k
  · right
    refine ⟨rfl, rfl, fun j hj ha hv => ?_⟩
    unfold leastN at h
    rw [List.find?_range_eq_none] at h
    have := h j hj
    unfold nextP at this
    rw [decide_eq_true ha, decide_eq_true hv] at this
    exact absurd this (by decide)
  · left
    unfold leastN at h
    rw [List.find?_range_eq_some] at h
    obtain ⟨h1, h2, h3⟩ := h
    unfold nextP at h1 h3
    simp only [Bool.and_eq_true, decide_eq_true_eq] at h1
    refine ⟨rfl, k, rfl, by simpa using h2, h1.1, h1.2, fun j hj ha hv => ?_⟩
    have := h3 j hj
    rw [decide_eq_true ha, decide_eq_true hv] at this
    exact absurd this (by decide)
def LastF (L : List Nat) (a v : Int) (x e : Int) : Prop :=
  (e = 0 ∧ ∃ k : Nat, x = (k : Int) ∧ k < L.length ∧ (k : Int) < a ∧ ((ent L k : Nat) : Int) = v ∧ ∀ j, j < L.length → k < j → (j : Int) < a → ((ent L j : Nat) : Int) ≠ v) ∨ (e = 4 ∧ x = 0 ∧ ∀ j, j < L.length → (j : Int) < a → ((ent L j : Nat) : Int) ≠ v)
theorem lastN_facts (p : Nat → Bool) (n : Nat) : (lastN p n = none ∧ ∀ j, j < n → p j = false) ∨ ∃ k, lastN p n = some k ∧ k < n ∧ p k = true ∧ ∀ j, j < n → k < j → p j = false := by
  induction n with
  | zero => exact .inl ⟨rfl, by omega⟩
  | succ n ih =>
    rcases hp : p n
    · have e : lastN p (n + 1) = lastN p n := by simp [lastN, hp]
      rw [e]
      rcases ih with ⟨h1, h2⟩ | ⟨k, h1, h2, h3, h4⟩
      · refine .inl ⟨h1, fun j hj => ?_⟩
        by_cases hj2 : j = n
        · rw [hj2]; exact hp
        · exact h2 j (by omega)
      · refine .inr ⟨k, h1, by omega, h3, fun j hj hk => ?_⟩
        by_cases hj2 : j = n
        · rw [hj2]; exact hp
        · exact h4 j (by omega) hk
    · exact .inr ⟨n, by simp [lastN, hp], by omega, hp, by omega⟩
theorem lastF (L : List Nat) (a v : Int) : LastF L a v (lastV L a v) (lastE L a v) := by
  unfold lastV lastE LastF
  rcases lastN_facts (lastP L a v) L.length with ⟨h, h2⟩ | ⟨k, h, h2, h3, h4⟩
  · right
    rw [h]
    refine ⟨rfl, rfl, fun j hj ha hv => ?_⟩
    have := h2 j hj
    unfold lastP at this
    rw [decide_eq_true ha, decide_eq_true hv] at this
    exact absurd this (by decide)
  · left
    rw [h]
    unfold lastP at h3 h4
    simp only [Bool.and_eq_true, decide_eq_true_eq] at h3
    refine ⟨rfl, k, rfl, h2, h3.1, h3.2, fun j hj hk ha hv => ?_⟩
    have := h4 j hj hk
    rw [decide_eq_true ha, decide_eq_true hv] at this
    exact absurd this (by decide)
section
variable {w W W' : World} {g h g' h' wd : Nat} {L M : List Nat}
theorem next_cases (T : STab w g h wd L) (a v : Int) : Calls Try.prog 35 #[.pointer (some ⟨g, 0, none⟩), .int .i64 a, .int .i64 v] w fun e w' => ∃ x er, e = .returned (.tuple #[.int .i64 x, .int .i64 er]) ∧ (∃ m, w' = w.drewN m) ∧ NextF L a v x er := by
  refine (next_any T a v).mono ?_
  rintro e w' ⟨rfl, m, rfl⟩
  exact ⟨_, _, rfl, ⟨m, rfl⟩, nextF L a v⟩
theorem last_cases' (T : STab w g h wd L) (a v : Int) : Calls Try.prog 36 #[.pointer (some ⟨g, 0, none⟩), .int .i64 a, .int .i64 v] w fun e w' => ∃ x er, e = .returned (.tuple #[.int .i64 x, .int .i64 er]) ∧ (∃ m, w' = w.drewN m) ∧ LastF L a v x er := by
  refine (last_any T a v).mono ?_
  rintro e w' ⟨rfl, m, rfl⟩
  exact ⟨_, _, rfl, ⟨m, rfl⟩, lastF L a v⟩
theorem get_is {i v : Int} (e : getS L i = v) (T : STab W g h wd L) : Calls Try.prog 24 #[.pointer (some ⟨g, 0, none⟩), .int .i64 i] W fun e w' => e = .returned (.int .i64 v) ∧ ∃ m, w' = W.drewN m := by
  subst e
  exact get_any T i

set_option maxRecDepth 100000 in
set_option maxHeartbeats 1000000 in
theorem found_great (n wd : Int) (A : Option Addr) (len cap : Nat) (f v : Int) (hg : 80 < len) :
    Calls Try.prog 8 #[.int .i64 n, .int .i64 wd, .slice A len cap, .int .i64 f, .int .i64 v] w (TrueP w) := by
  go_enter Try.func8, Try.ntmps8
  go_wp2_with (first | (go_at_call 28; refine (made_nil_great _ _ _ _ _ hg).mono ?_; rintro e w1 ⟨rfl, K1⟩; have HK := hid K1; clear K1) | (go_at_call 13; refine (great_yes _ _ _ _ hg).mono ?_; rintro e w' ⟨rfl, n1, rfl⟩) | (go_at_call 14; refine (alive_ok _).mono ?_; rintro e w6 ⟨rfl, k6⟩; have HK6 := hid k6; clear k6))
  go_ret
  exact ⟨rfl, (HK.out.drewN _).chain HK6.out⟩
set_option maxRecDepth 100000 in
set_option maxHeartbeats 4000000 in
theorem found_rest (n wd : Int) (A : Option Addr) (len cap : Nat) (f v : Int) (hg : len ≤ 80) (hA : ActsAt w A len) :
    Calls Try.prog 8 #[.int .i64 n, .int .i64 wd, .slice A len cap, .int .i64 f, .int .i64 v] w (TrueP w) := by
  have HA := hid hA
  clear hA
  go_enter Try.func8, Try.ntmps8
  go_wp2_with (fail)
  refine (made_any _ _ _ _ _ HA.out).mono ?_
  rintro e w1 ⟨K1, rfl | ⟨g, h, g', h', wd', L, rfl, B, rfl, rfl, q1, q2, q3, q4⟩⟩
  · have HK := hid K1
    clear K1
    go_wp2_with (first | (go_at_call 13; refine (great_no _ _ _ _ hg).mono ?_; rintro e w' ⟨rfl, n1, rfl⟩) | (go_at_call 14; refine (alive_ok _).mono ?_; rintro e w6 ⟨rfl, k6⟩; have HK6 := hid k6; clear k6))
    go_ret
    exact ⟨rfl, (HK.out.drewN _).chain HK6.out⟩
  · have HT := hid B.1
    have HK := hid K1
    have hle := B.1.le
    clear K1 B q1 q2 q3 q4
    go_wp2_with ((go_at_call 13; refine (great_no _ _ _ _ hg).mono ?_; rintro e w' ⟨rfl, n1, rfl⟩))
    refine (next_cases (HT.out.drewN _) f v).mono ?_
    rintro e w2 ⟨a, er, rfl, ⟨n2, rfl⟩, hn⟩
    have HN := hid hn
    clear hn
    go_wp2_with (fail)
    refine (last_cases' (HT.out.drewN _) f v).mono ?_
    rintro e w3 ⟨b, fr, rfl, ⟨n3, rfl⟩, hl⟩
    have HLA := hid hl
    clear hl
    have EV : Hid (∀ k : Nat, k < L.length → ((ent L k : Nat) : Int) = v → getS L (k : Int) = v) := fun k h1 h2 => by rw [getS_at h1]; exact h2
    rcases HN.out with ⟨rfl, ka, rfl, a1, a2, a3, a4⟩ | ⟨rfl, rfl, a4⟩
    · rcases HLA.out with ⟨rfl, kb, rfl, b1, b2, b3, b4⟩ | ⟨rfl, rfl, b4⟩
      · have A4 := hid a4
        have B4 := hid b4
        have EA := hid (EV.out ka a1 a3)
        have EB := hid (EV.out kb b1 b3)
        clear a4 b4 HN HLA a3 b3
        go_wp2_with (first | ((go_at_call 24; with_reducible refine (get_is EA.out (HT.out.drewN _)).mono ?_); rintro e w' ⟨rfl, n4, rfl⟩) | ((go_at_call 24; with_reducible refine (get_is EB.out (HT.out.drewN _)).mono ?_); rintro e w' ⟨rfl, n5, rfl⟩))
        go_loopw [17] (fun c wr => ∃ k n : Nat, k ≤ L.length ∧ c = .int .i64 (k : Int) ∧ wr = w1.drewN n) (fun c _ => L.length - (intOf c).toNat)
        case atStart => exact ⟨0, _, by omega, rfl, rfl⟩
        case round =>
          obtain ⟨k, nn, hk, rfl, rfl⟩ := hrel
          by_cases hlt : k < L.length
          · by_cases hv : ((ent L k : Nat) : Int) = v
            · have EK := hid (EV.out k hlt hv)
              by_cases hf : f ≤ (k : Int)
              · have hka : ¬ k < ka := fun hh => A4.out k hh hf hv
                have hka' : decide (k < ka) = false := decide_eq_false hka
                clear hv
                go_wp2_with (first | (go_at_call 25; refine (entries_any (HT.out.drewN _)).mono ?_; rintro e w' ⟨rfl, n6, rfl⟩) | (go_at_call 24; refine (get_is EK.out (HT.out.drewN _)).mono ?_; rintro e w' ⟨rfl, n7, rfl⟩))
                go_roundw
                case rel => exact ⟨k + 1, _, by omega, by go_num, rfl⟩
                case measure => simp [intOf]; omega
              · have hkb : ¬ kb < k := fun hh => B4.out k hlt hh (by omega) hv
                have hkb' : decide (kb < k) = false := decide_eq_false hkb
                have hf' : decide (f ≤ (k : Int)) = false := decide_eq_false hf
                clear hv
                go_wp2_with (first | (go_at_call 25; refine (entries_any (HT.out.drewN _)).mono ?_; rintro e w' ⟨rfl, n6, rfl⟩) | (go_at_call 24; refine (get_is EK.out (HT.out.drewN _)).mono ?_; rintro e w' ⟨rfl, n7, rfl⟩))
                go_roundw
                case rel => exact ⟨k + 1, _, by omega, by go_num, rfl⟩
                case measure => simp [intOf]; omega
            · have EK := hid (getS_at (L := L) hlt)
              have hne : (((ent L k : Nat) : Int) != v) = true := bne_iff_ne.2 hv
              clear hv
              go_wp2_with (first | (go_at_call 25; refine (entries_any (HT.out.drewN _)).mono ?_; rintro e w' ⟨rfl, n6, rfl⟩) | (go_at_call 24; refine (get_is EK.out (HT.out.drewN _)).mono ?_; rintro e w' ⟨rfl, n7, rfl⟩))
              go_roundw
              case rel => exact ⟨k + 1, _, by omega, by go_num, rfl⟩
              case measure => simp [intOf]; omega
          · obtain rfl : k = L.length := by omega
            go_wp2_with (first | (go_at_call 25; refine (entries_any (HT.out.drewN _)).mono ?_; rintro e w' ⟨rfl, n6, rfl⟩) | (go_at_call 14; refine (alive_ok _).mono ?_; rintro e w6 ⟨rfl, k6⟩; have HK6 := hid k6; clear k6))
            go_ret
            exact ⟨rfl, (HK.out.drewN _).chain HK6.out⟩
      · have A4 := hid a4
        have B4 := hid b4
        have EA := hid (EV.out ka a1 a3)
        clear a4 b4 HN HLA a3
        go_wp2_with (first | ((go_at_call 24; with_reducible refine (get_is EA.out (HT.out.drewN _)).mono ?_); rintro e w' ⟨rfl, n4, rfl⟩))
        go_loopw [17] (fun c wr => ∃ k n : Nat, k ≤ L.length ∧ c = .int .i64 (k : Int) ∧ wr = w1.drewN n) (fun c _ => L.length - (intOf c).toNat)
        case atStart => exact ⟨0, _, by omega, rfl, rfl⟩
        case round =>
          obtain ⟨k, nn, hk, rfl, rfl⟩ := hrel
          by_cases hlt : k < L.length
          · by_cases hv : ((ent L k : Nat) : Int) = v
            · have EK := hid (EV.out k hlt hv)
              by_cases hf : f ≤ (k : Int)
              · have hka : ¬ k < ka := fun hh => A4.out k hh hf hv
                have hka' : decide (k < ka) = false := decide_eq_false hka
                clear hv
                go_wp2_with (first | (go_at_call 25; refine (entries_any (HT.out.drewN _)).mono ?_; rintro e w' ⟨rfl, n6, rfl⟩) | (go_at_call 24; refine (get_is EK.out (HT.out.drewN _)).mono ?_; rintro e w' ⟨rfl, n7, rfl⟩))
                go_roundw
                case rel => exact ⟨k + 1, _, by omega, by go_num, rfl⟩
                case measure => simp [intOf]; omega
              · exact absurd hv (B4.out k hlt (by omega))
            · have EK := hid (getS_at (L := L) hlt)
              have hne : (((ent L k : Nat) : Int) != v) = true := bne_iff_ne.2 hv
              clear hv
              go_wp2_with (first | (go_at_call 25; refine (entries_any (HT.out.drewN _)).mono ?_; rintro e w' ⟨rfl, n6, rfl⟩) | (go_at_call 24; refine (get_is EK.out (HT.out.drewN _)).mono ?_; rintro e w' ⟨rfl, n7, rfl⟩))
              go_roundw
              case rel => exact ⟨k + 1, _, by omega, by go_num, rfl⟩
              case measure => simp [intOf]; omega
          · obtain rfl : k = L.length := by omega
            go_wp2_with (first | (go_at_call 25; refine (entries_any (HT.out.drewN _)).mono ?_; rintro e w' ⟨rfl, n6, rfl⟩) | (go_at_call 14; refine (alive_ok _).mono ?_; rintro e w6 ⟨rfl, k6⟩; have HK6 := hid k6; clear k6))
            go_ret
            exact ⟨rfl, (HK.out.drewN _).chain HK6.out⟩
    · rcases HLA.out with ⟨rfl, kb, rfl, b1, b2, b3, b4⟩ | ⟨rfl, rfl, b4⟩
      · have A4 := hid a4
        have B4 := hid b4
        have EB := hid (EV.out kb b1 b3)
        clear a4 b4 HN HLA b3
        go_wp2_with (first | ((go_at_call 24; with_reducible refine (get_is EB.out (HT.out.drewN _)).mono ?_); rintro e w' ⟨rfl, n5, rfl⟩))
        go_loopw [17] (fun c wr => ∃ k n : Nat, k ≤ L.length ∧ c = .int .i64 (k : Int) ∧ wr = w1.drewN n) (fun c _ => L.length - (intOf c).toNat)
        case atStart => exact ⟨0, _, by omega, rfl, rfl⟩
        case round =>
          obtain ⟨k, nn, hk, rfl, rfl⟩ := hrel
          by_cases hlt : k < L.length
          · by_cases hv : ((ent L k : Nat) : Int) = v
            · have EK := hid (EV.out k hlt hv)
              by_cases hf : f ≤ (k : Int)
              · exact absurd hv (A4.out k hlt hf)
              · have hkb : ¬ kb < k := fun hh => B4.out k hlt hh (by omega) hv
                have hkb' : decide (kb < k) = false := decide_eq_false hkb
                have hf' : decide (f ≤ (k : Int)) = false := decide_eq_false hf
                clear hv
                go_wp2_with (first | (go_at_call 25; refine (entries_any (HT.out.drewN _)).mono ?_; rintro e w' ⟨rfl, n6, rfl⟩) | (go_at_call 24; refine (get_is EK.out (HT.out.drewN _)).mono ?_; rintro e w' ⟨rfl, n7, rfl⟩))
                go_roundw
                case rel => exact ⟨k + 1, _, by omega, by go_num, rfl⟩
                case measure => simp [intOf]; omega
            · have EK := hid (getS_at (L := L) hlt)
              have hne : (((ent L k : Nat) : Int) != v) = true := bne_iff_ne.2 hv
              clear hv
              go_wp2_with (first | (go_at_call 25; refine (entries_any (HT.out.drewN _)).mono ?_; rintro e w' ⟨rfl, n6, rfl⟩) | (go_at_call 24; refine (get_is EK.out (HT.out.drewN _)).mono ?_; rintro e w' ⟨rfl, n7, rfl⟩))
              go_roundw
              case rel => exact ⟨k + 1, _, by omega, by go_num, rfl⟩
              case measure => simp [intOf]; omega
          · obtain rfl : k = L.length := by omega
            go_wp2_with (first | (go_at_call 25; refine (entries_any (HT.out.drewN _)).mono ?_; rintro e w' ⟨rfl, n6, rfl⟩) | (go_at_call 14; refine (alive_ok _).mono ?_; rintro e w6 ⟨rfl, k6⟩; have HK6 := hid k6; clear k6))
            go_ret
            exact ⟨rfl, (HK.out.drewN _).chain HK6.out⟩
      · have A4 := hid a4
        have B4 := hid b4
        clear a4 b4 HN HLA
        go_wp2_with (fail)
        go_loopw [17] (fun c wr => ∃ k n : Nat, k ≤ L.length ∧ c = .int .i64 (k : Int) ∧ wr = w1.drewN n) (fun c _ => L.length - (intOf c).toNat)
        case atStart => exact ⟨0, _, by omega, rfl, rfl⟩
        case round =>
          obtain ⟨k, nn, hk, rfl, rfl⟩ := hrel
          by_cases hlt : k < L.length
          · by_cases hv : ((ent L k : Nat) : Int) = v
            · have EK := hid (EV.out k hlt hv)
              by_cases hf : f ≤ (k : Int)
              · exact absurd hv (A4.out k hlt hf)
              · exact absurd hv (B4.out k hlt (by omega))
            · have EK := hid (getS_at (L := L) hlt)
              have hne : (((ent L k : Nat) : Int) != v) = true := bne_iff_ne.2 hv
              clear hv
              go_wp2_with (first | (go_at_call 25; refine (entries_any (HT.out.drewN _)).mono ?_; rintro e w' ⟨rfl, n6, rfl⟩) | (go_at_call 24; refine (get_is EK.out (HT.out.drewN _)).mono ?_; rintro e w' ⟨rfl, n7, rfl⟩))
              go_roundw
              case rel => exact ⟨k + 1, _, by omega, by go_num, rfl⟩
              case measure => simp [intOf]; omega
          · obtain rfl : k = L.length := by omega
            go_wp2_with (first | (go_at_call 25; refine (entries_any (HT.out.drewN _)).mono ?_; rintro e w' ⟨rfl, n6, rfl⟩) | (go_at_call 14; refine (alive_ok _).mono ?_; rintro e w6 ⟨rfl, k6⟩; have HK6 := hid k6; clear k6))
            go_ret
            exact ⟨rfl, (HK.out.drewN _).chain HK6.out⟩
theorem found_ok (n wd : Int) (A : Option Addr) (len cap : Nat) (f v : Int) (hA : ActsAt w A len) :
    Calls Try.prog 8 #[.int .i64 n, .int .i64 wd, .slice A len cap, .int .i64 f, .int .i64 v] w (TrueP w) := by
  by_cases hg : 80 < len
  · exact found_great n wd A len cap f v hg
  · exact found_rest n wd A len cap f v (by omega) hA
end
end Go.Proofs.Ythhgcjbmnkdgjaa
