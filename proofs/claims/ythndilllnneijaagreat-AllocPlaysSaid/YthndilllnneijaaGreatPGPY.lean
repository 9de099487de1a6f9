/-
  An allocator that nobody made: the contracts of package alloc's functions, and of the document's at nil; the law's cursors. Conditions: those that stand in each theorem.
-/
import Derived.Test.YthndilllnneijaaGreatPGJI
import Derived.Test.YthndilllnneijaaGreatPNa
import Derived.Test.YthndilllnneijaaGreatPGPX
import Derived.Test.YthndilllnneijaaGreatPG23
import Derived.Test.YthndilllnneijaaGreatPEe
set_option linter.unusedSimpArgs false
set_option linter.unusedVariables false
set_option maxRecDepth 100000
set_option maxHeartbeats 4000000
namespace Go.Proofs.YthndilllnneijaaGreat
open Go.RowKit Go.Deep Go.Maps
section
variable {w w' W : World} {v vh : Value} {b : HB} {m : HM} {q g : Nat} {A : AS}
theorem nh_isHeap (h : NoH w vh) : Calls Tryz.prog 97 #[vh] w fun e w' => e = .returned (.bool false) ∧ Kp [] w w' := by
 have HB := hid h
 clear h
 go_enter Tryz.func97, Tryz.ntmps97
 go_wp2_with (go_at_call 41; refine (n_state HB.out 0).mono ?_; rintro e w1 ⟨rfl, K1⟩; have HK1 := hid K1; clear K1)
 go_ret
 exact ⟨rfl, HK1.out⟩
theorem nh_new (h : NoH w vh) (s p : Int) : Calls Tryz.prog 21 #[vh, .int .i64 s, .int .i64 p] w fun e w' => e = .returned (.tuple #[.pointer none, .int .i64 1]) ∧ Kp [] w w' := by
 have HB := hid h
 clear h
 go_enter Tryz.func21, Tryz.ntmps21
 go_wp2_with (go_at_call 97; refine (nh_isHeap HB.out).mono ?_; rintro e w1 ⟨rfl, K1⟩; have HK1 := hid K1; clear K1)
 go_ret2
 exact ⟨rfl, HK1.out⟩
end
section
variable {w W V : World} {b c : HB} {d d2 : DB} {m m' m2 : HM} {q p q2 p2 g g' gb : Nat} {A A' A2 : AS}
theorem r_new_nil (s p : Int) (w : World) :
   Calls Tryz.prog 22 #[.pointer none, .int .i64 s, .int .i64 p] w fun e w' => e = .returned (.tuple #[.pointer none, .int .i64 1]) ∧ Kp [] w w' := by
 go_enter Tryz.func22, Tryz.ntmps22
 go_wp2_with (go_at_call 60; refine (u_made _).mono ?_; rintro e w1 ⟨rfl, K1⟩; have HK1 := hid K1; clear K1)
 go_ret2
 exact ⟨rfl, HK1.out⟩
theorem l_cursors (P : PQ w W b q m g A d p m' g' A) :
   Calls Tryz.prog 26 #[.pointer (some ⟨g, 0, none⟩), .pointer (some ⟨g', 0, none⟩)] W fun e w' => e = .returned (.bool true) ∧ Kp [] W w' := by
 have HP := hid P
 clear P
 go_enter Tryz.func26, Tryz.ntmps26
 go_wp2_with (first
   | (go_at_call 31; refine (a_cursor HP.out.v.al).mono ?_; rintro e w1 ⟨rfl, K⟩; have HK1 := hid K; clear K)
   | (go_at_call 105; refine (r_cursor (HP.out.step HK1.out).r (HP.out.step HK1.out).t).mono ?_; rintro e w2 ⟨rfl, K⟩; have HK2 := hid (HK1.out.chain K); clear K)
   | (go_at_call 106; refine (a_space (HP.out.step HK2.out).v.al).mono ?_; rintro e w3 ⟨rfl, K⟩; have HK3 := hid (HK2.out.chain K); clear K)
   | (go_at_call 107; refine (r_space (HP.out.step HK3.out).r (HP.out.step HK3.out).t).mono ?_; rintro e w4 ⟨rfl, K⟩; have HK4 := hid (HK3.out.chain K); clear K)
   | (go_at_call 108; refine (a_policy (HP.out.step HK4.out).v.al).mono ?_; rintro e w5 ⟨rfl, K⟩; have HK5 := hid (HK4.out.chain K); clear K)
   | (go_at_call 109; refine (r_policy (HP.out.step HK5.out).r (HP.out.step HK5.out).t).mono ?_; rintro e w6 ⟨rfl, K⟩; have HK6 := hid (HK5.out.chain K); clear K))
 go_ret
 exact ⟨rfl, HK6.out⟩
theorem PQ.clones {w5 w6 w7 w8 : World} {dd : DB} {gc g2 : Nat} (P : PQ w W b q m g A d p m g' A) (S5 : SH w5 c q m) (K5 : Kp [] W w5) (N5 : ∀ x ∈ c.all, W.heap.size ≤ x) (T6 : DR w6 dd p m) (K6 : Kp [] w5 w6) (N6 : ∀ x ∈ dd.all, w5.heap.size ≤ x) (A7 : AL w7 gc c A) (G7 : w6.heap.size ≤ gc) (K7 : Kp [] w6 w7) (R8 : RAL w8 g2 dd A) (G8 : w7.heap.size ≤ g2) (K8 : Kp [] w7 w8) : PQ w w8 c q m gc A dd p m g2 A := by
 have s0 := P.v.kp.size
 have s5 := K5.size
 have s6 := K6.size
 have s7 := K7.size
 have l5 := S5.lt
 have l6 := T6.lt
 have l7 := Blk.lt A7
 refine ⟨⟨S5.k0 ((K6.chain K7).chain K8), (((P.v.kp.chain K5).chain K6).chain K7).chain K8, fun x hx => by have := N5 x hx; omega, A7.kp K8 (by simp), by omega, fun hm => by have := l5 _ hm; omega, P.v.ok⟩, T6.kp0 (K7.chain K8), R8, P.ok, P.tl, fun x hx => ⟨by have := N6 x hx; omega, fun hm => by have := l5 x hm; have := N6 x hx; omega, fun he => by have := l6 x hx; omega⟩, ⟨by omega, fun hm => by have := l6 _ hm; omega, fun hm => by have := l5 _ hm; omega, by omega⟩⟩
theorem al_plays_great (n s p : Int) (Ad : Option Addr) (len cap : Nat) (hg : 80 < len) :
   Calls Tryz.prog 4 #[.int .i64 n, .int .i64 s, .int .i64 p, .slice Ad len cap] w (TrueP w) := by
 have HG : Hid (decide (80 < len) = true) := decide_eq_true hg
 clear hg
 go_enter Tryz.func4, Tryz.ntmps4
 go_wp2_with (first
   | (go_at_call 18; refine (q_great _ _ _ _ HG.out).mono ?_; rintro e w1 ⟨rfl, K⟩; have HK1 := hid K; clear K)
   | (go_at_call 20; refine (al_alive_q HK1.out).mono ?_; rintro e w2 ⟨rfl, K⟩; have HK2 := hid K; clear K))
 go_ret
 exact ⟨rfl, HK2.out⟩
theorem al_plays_wide (n s p : Int) (Ad : Option Addr) (len cap : Nat) (hg : ¬ 80 < len) (h1 : 12 < n) (h2 : n ≤ 64) :
   Calls Tryz.prog 4 #[.int .i64 n, .int .i64 s, .int .i64 p, .slice Ad len cap] w (TrueP w) := by
 have HG : Hid (decide (80 < len) = false) := decide_eq_false hg
 have HF : Hid ((decide (n ≤ 12) || decide (64 < n)) = false) := by show _ = _; simp; omega
 clear hg h1 h2
 go_enter Tryz.func4, Tryz.ntmps4
 go_wp2_with (first
   | (go_at_call 18; refine (q_great _ _ _ _ HG.out).mono ?_; rintro e w1 ⟨rfl, K⟩; have HK1 := hid K; clear K)
   | (go_at_call 19; refine (few_k _ _ HF).mono ?_; rintro e w2 ⟨rfl, K⟩; have HK2 := hid (HK1.out.chain K); clear K)
   | (go_at_call 20; refine (al_alive_q HK2.out).mono ?_; rintro e w3 ⟨rfl, K⟩; have HK3 := hid K; clear K))
 go_ret
 exact ⟨rfl, HK3.out⟩
theorem al_plays_none (n s p : Int) (Ad : Option Addr) (len cap : Nat) (hg : ¬ 80 < len) (h : ¬ (2 ≤ n ∧ n ≤ 64)) :
   Calls Tryz.prog 4 #[.int .i64 n, .int .i64 s, .int .i64 p, .slice Ad len cap] w (TrueP w) := by
 have HG : Hid (decide (80 < len) = false) := decide_eq_false hg
 have HF : Hid ((decide (n ≤ 12) || decide (64 < n)) = true) := by show _ = _; simp; omega
 have HN := hid h
 clear hg h
 go_enter Tryz.func4, Tryz.ntmps4
 go_wp2_with (first
   | (go_at_call 18; refine (q_great _ _ _ _ HG.out).mono ?_; rintro e w1 ⟨rfl, K⟩; have HK1 := hid K; clear K)
   | (go_at_call 19; refine (few_k _ _ HF).mono ?_; rintro e w2 ⟨rfl, K⟩; have HK2 := hid (HK1.out.chain K); clear K)
   | (go_at_call 12; refine (h_new_bad n _ HN.out).mono ?_; rintro e w3 ⟨rfl, nd, hw3⟩; have HK3 := hid (HK2.out.chain (Kp.of_drewN ⟨nd, hw3⟩)); clear hw3)
   | (go_at_call 13; refine (d_new_bad n _ HN.out).mono ?_; rintro e w4 ⟨rfl, nd, hw4⟩; have HK4 := hid (HK3.out.chain (Kp.of_drewN ⟨nd, hw4⟩)); clear hw4)
   | (go_at_call 21; refine (nh_new (.inl rfl) s p).mono ?_; rintro e w5 ⟨rfl, K⟩; have HK5 := hid (HK4.out.chain K); clear K)
   | (go_at_call 22; refine (r_new_nil s p _).mono ?_; rintro e w6 ⟨rfl, K⟩; have HK6 := hid (HK5.out.chain K); clear K))
 go_loopw [9, 11, 13, 15, 17] (fun hh tt aa bb c wr => hh = .pointer none ∧ tt = .pointer none ∧ aa = .pointer none ∧ bb = .pointer none ∧ c = .int .i64 0 ∧ Kp [] w wr) (fun _ _ _ _ _ _ => 0)
 case atStart => exact ⟨rfl, rfl, rfl, rfl, rfl, HK6.out⟩
 case round =>
   rename World => wr
   obtain ⟨rfl, rfl, rfl, rfl, rfl, K⟩ := hrel
   have HKR := hid K
   clear K
   by_cases hl : 0 < len
   · have tl : decide ((0 : Int) < (len : Int)) = true := decide_eq_true (by omega)
     have tln : decide (0 < len) = true := decide_eq_true hl
     go_wp2_with (go_at_call 20; refine (al_alive_q HKR.out).mono ?_; rintro e y2 ⟨rfl, K⟩; have HKZ := hid K; clear K)
     go_ret
     exact ⟨rfl, HKZ.out⟩
   · have tl : decide ((0 : Int) < (len : Int)) = false := decide_eq_false (by omega)
     have tln : decide (0 < len) = false := decide_eq_false hl
     go_wp2_with (go_at_call 20; refine (al_alive_q HKR.out).mono ?_; rintro e y2 ⟨rfl, K⟩; have HKZ := hid K; clear K)
     go_ret
     exact ⟨rfl, HKZ.out⟩
theorem al_plays_bad (n : Nat) (s p : Int) (Ad : Option Addr) (len cap : Nat) (hg : ¬ 80 < len) (h : 2 ≤ n ∧ n ≤ 12) (hsp : ¬ (0 ≤ s ∧ s < 8 ∧ 0 ≤ p ∧ p < 5)) :
   Calls Tryz.prog 4 #[.int .i64 (n : Int), .int .i64 s, .int .i64 p, .slice Ad len cap] w (TrueP w) := by
 have HG : Hid (decide (80 < len) = false) := decide_eq_false hg
 have HF : Hid ((decide ((n : Int) ≤ 12) || decide (64 < (n : Int))) = true) := by show _ = _; simp; omega
 have HBN := hid h
 have HSP := hid hsp
 clear hg h hsp
 go_enter Tryz.func4, Tryz.ntmps4
 go_wp2_with (first
   | (go_at_call 18; refine (q_great _ _ _ _ HG.out).mono ?_; rintro e w1 ⟨rfl, K⟩; have HK1 := hid K; clear K)
   | (go_at_call 19; refine (few_k _ _ HF).mono ?_; rintro e w2 ⟨rfl, K⟩; have HK2 := hid (HK1.out.chain K); clear K)
   | (go_at_call 12; refine (LH.start (w := w) n _ HBN.out.1 (by have := HBN.out; omega) HK2.out).mono ?_; rintro e w3 ⟨b1, rfl, U3⟩; have HU3 := hid U3; clear U3)
   | (go_at_call 13; refine (d_new_ok n _ HBN.out.1 (by have := HBN.out; omega)).mono ?_; rintro e w4 ⟨dd, rfl, T4, K4, N4⟩; have HT4 := hid T4; have HU4 := hid (HU3.out.step' K4); clear T4 K4 N4)
   | (go_at_call 21; refine (a_new_bad HU4.out.sh s p HSP.out).mono ?_; rintro e w5 ⟨rfl, K⟩; have HK5 := hid (HU4.out.kp.chain K); have HT5 := hid (HT4.out.kp0 K); clear K)
   | (go_at_call 22; refine (r_new_bad HT5.out s p HSP.out).mono ?_; rintro e w6 ⟨rfl, K⟩; have HK6 := hid (HK5.out.chain K); clear K))
 go_loopw [9, 11, 13, 15, 17] (fun hh tt aa bb c wr => hh = .pointer (some ⟨b1.g, 0, none⟩) ∧ tt = .pointer (some ⟨dd.g, 0, none⟩) ∧ aa = .pointer none ∧ bb = .pointer none ∧ c = .int .i64 0 ∧ Kp [] w wr) (fun _ _ _ _ _ _ => 0)
 case atStart => exact ⟨rfl, rfl, rfl, rfl, rfl, HK6.out⟩
 case round =>
   rename World => wr
   obtain ⟨rfl, rfl, rfl, rfl, rfl, K⟩ := hrel
   have HKR := hid K
   clear K
   by_cases hl : 0 < len
   · have tl : decide ((0 : Int) < (len : Int)) = true := decide_eq_true (by omega)
     have tln : decide (0 < len) = true := decide_eq_true hl
     go_wp2_with (go_at_call 20; refine (al_alive_q HKR.out).mono ?_; rintro e y2 ⟨rfl, K⟩; have HKZ := hid K; clear K)
     go_ret
     exact ⟨rfl, HKZ.out⟩
   · have tl : decide ((0 : Int) < (len : Int)) = false := decide_eq_false (by omega)
     have tln : decide (0 < len) = false := decide_eq_false hl
     go_wp2_with (go_at_call 20; refine (al_alive_q HKR.out).mono ?_; rintro e y2 ⟨rfl, K⟩; have HKZ := hid K; clear K)
     go_ret
     exact ⟨rfl, HKZ.out⟩
theorem al_plays_good (n s p : Nat) (Ad : Option Addr) (len cap : Nat) (hg : ¬ 80 < len) (h : 2 ≤ n ∧ n ≤ 12) (hs : s < 8) (hp : p < 5) (hA : QActs w Ad len) :
   Calls Tryz.prog 4 #[.int .i64 (n : Int), .int .i64 (s : Int), .int .i64 (p : Int), .slice Ad len cap] w (TrueP w) := by
 have HG : Hid (decide (80 < len) = false) := decide_eq_false hg
 have HBN := hid h
 have HF : Hid ((decide ((n : Int) ≤ 12) || decide (64 < (n : Int))) = true) := by show _ = _; simp; omega
 have HA := hid hA
 have hlen : len ≤ 80 := by omega
 clear hg h hA
 go_enter Tryz.func4, Tryz.ntmps4
 go_wp2_with (first
   | (go_at_call 18; refine (q_great _ _ _ _ HG.out).mono ?_; rintro e w1 ⟨rfl, K⟩; have HK1 := hid K; clear K)
   | (go_at_call 19; refine (few_k _ _ HF).mono ?_; rintro e w2 ⟨rfl, K⟩; have HK2 := hid (HK1.out.chain K); clear K)
   | (go_at_call 12; refine (LH.start (w := w) n _ HBN.out.1 (by have := HBN.out; omega) HK2.out).mono ?_; rintro e w3 ⟨b1, rfl, U3⟩; have HU3 := hid U3; clear U3)
   | (go_at_call 13; refine (d_new_ok n _ HBN.out.1 (by have := HBN.out; omega)).mono ?_; rintro e w4 ⟨dd, rfl, T4, K4, N4⟩; have HT4 := hid T4; have HN4 := hid N4; have HU4 := hid (HU3.out.step' K4); have HLT3 := hid HU3.out.sh.lt; have HS3 := hid HU3.out.kp.size; clear T4 K4 N4)
   | (go_at_call 21; refine (a_new HU4.out.sh s p hs hp).mono ?_; rintro e w5 ⟨g1, rfl, A5, hg5, K5⟩; have HA5 := hid A5; have HG5 := hid hg5; have HK5 := hid K5; clear A5 hg5 K5)
   | (go_at_call 22; refine (r_new (HT4.out.kp0 HK5.out) s p hs hp).mono ?_; rintro e w6 ⟨g2, rfl, R6, hg6, K6⟩; have HR6 := hid R6; have HG6 := hid hg6; have HK6 := hid K6; clear R6 hg6 K6))
 have HP : Hid (PQ w w6 b1 0 (HM.new n) g1 (AS.new s p) dd 0 (HM.new n) g2 (AS.new s p)) := by
   have h1 := HU4.out.kp.size
   have h2 := HK5.out.size
   have h3 := HK6.out.size
   have h4 := HG5.out
   have h5 := HG6.out
   have h6 := HU4.out.sh.lt
   have h7 := HT4.out.lt
   have h8 := HN4.out
   have h9 := HLT3.out
   have h10 := HS3.out
   have h11 := Blk.lt HA5.out
   exact ⟨⟨HU4.out.sh.k0 (HK5.out.chain HK6.out), (HU4.out.kp.chain HK5.out).chain HK6.out, HU4.out.hb, HA5.out.kp HK6.out (by simp), by omega, fun hm => by have := h6 _ hm; omega, AS.new_ok hs hp⟩, HT4.out.kp0 (HK5.out.chain HK6.out), HR6.out, AS.new_ok hs hp, Tl.new n,
     fun x hx => ⟨by have := h8 x hx; omega, fun hm => by have := h9 x hm; have := h8 x hx; omega, fun he => by have := h7 x hx; omega⟩,
     ⟨by omega, fun hm => by have := h7 _ hm; omega, fun hm => by have := h6 _ hm; omega, by omega⟩⟩
 clear HU3 HT4 HN4 HU4 HLT3 HS3 HA5 HG5 HK5 HR6 HG6 HK6 HK1 HK2
 go_loopw [9, 11, 13, 15, 17] (fun hh tt aa bb c wr => ∃ (k : Nat) (b : HB) (m : HM) (g : Nat) (A : AS) (d : DB) (g' : Nat), k ≤ len ∧ c = .int .i64 (k : Int) ∧ hh = .pointer (some ⟨b.g, 0, none⟩) ∧ tt = .pointer (some ⟨d.g, 0, none⟩) ∧ aa = .pointer (some ⟨g, 0, none⟩) ∧ bb = .pointer (some ⟨g', 0, none⟩) ∧ PQ w wr b k m g A d k m g' A ∧ A.Ev) (fun _ _ _ _ c _ => len - (intOf c).toNat)
 case atStart => exact ⟨0, b1, _, g1, _, dd, g2, by omega, rfl, rfl, rfl, rfl, rfl, HP.out, ⟨rfl, rfl⟩⟩
 case round =>
   clear HP
   rename World => wr
   obtain ⟨k, b, m, g, A, d, g', hk, rfl, rfl, rfl, rfl, rfl, P, hev⟩ := hrel
   have HP := hid P
   have HE := hid hev
   clear P hev
   by_cases hlt : k < len
   · have hlt2 : decide ((k : Int) < (len : Int)) = true := decide_eq_true (by omega)
     have hltn : decide (k < len) = true := decide_eq_true hlt
     obtain ⟨ga, oa, y, hya, rfl, c0, c1, c2, c3, c4, c5⟩ := HA.out.kp0 HP.out.v.kp k hlt
     have HYA := hid hya
     have HPE := hid (pq_eq HP.out.v.sh.inv HP.out.tl HP.out.ok HE.out (m.oneV y.a) y.k y.a y.s y.x y.y y.z)
     have HEV := hid (pqP_ev HP.out.v.sh.inv HP.out.v.ok HE.out (m.oneV y.a) y.k y.a y.s y.x y.y y.z)
     clear hya
     by_cases h3 : y.k = 3
     · have t3 : (y.k == 3) = true := beq_iff_eq.2 h3
       clear h3
       go_wp2_with (first
         | (go_at_call 14; refine (h_clone HP.out.v.sh).mono ?_; rintro e x5 ⟨c, rfl, S5, K5, N5⟩; have HS5 := hid S5; have HK5 := hid K5; have HN5 := hid N5; clear S5 K5 N5)
         | (go_at_call 15; refine (d_clone x5 d k m (HP.out.t.kp0 HK5.out) (by omega)).mono ?_; rintro e x6 ⟨dd', rfl, T6, K6, N6⟩; have HT6 := hid T6; have HK6 := hid K6; have HN6 := hid N6; clear T6 K6 N6)
         | (go_at_call 23; refine (a_clone (HP.out.v.al.kp (HK5.out.chain HK6.out) (by simp)) (HS5.out.k0 HK6.out)).mono ?_; rintro e x7 ⟨gc, rfl, A7, G7, K7⟩; have HA7 := hid A7; have HG7 := hid G7; have HK7 := hid K7; clear A7 G7 K7)
         | (go_at_call 24; refine (r_clone (HP.out.r.kp ((HK5.out.chain HK6.out).chain HK7.out) (by simp)) (HP.out.t.kp0 ((HK5.out.chain HK6.out).chain HK7.out)) (HT6.out.kp0 HK7.out)).mono ?_; rintro e x8 ⟨gd, rfl, R8, G8, K8⟩; have HP8 := hid (HP.out.clones HS5.out HK5.out HN5.out HT6.out HK6.out HN6.out HA7.out HG7.out HK7.out R8 G8 K8); have KA := ((HK5.out.chain HK6.out).chain HK7.out).chain K8; have e0 := cell_kp KA c0; have e1 := cell_kp KA c1; have e2 := cell_kp KA c2; have e3 := cell_kp KA c3; have e4 := cell_kp KA c4; have e5 := cell_kp KA c5; clear R8 G8 K8 KA)
         | (go_at_call 25; refine (play_q HP8.out y.k y.a y.s y.x y.y y.z HYA.out (by omega) (by omega)).mono ?_; rintro e x9 ⟨rfl, d9, hg9, P9⟩; rw [HPE.out.1] at P9; rw [HPE.out.2]; have HP9 := hid P9; have HG9 := hid hg9; clear P9 hg9)
         | (go_at_call 26; refine (l_cursors HP9.out).mono ?_; rintro e y1 ⟨rfl, K⟩; have HPA := hid (HP9.out.step K); clear K))
       go_roundw
       case rel => exact ⟨k + 1, c, _, gc, _, d9, gd, by omega, by go_num, rfl, by rw [HG9.out], rfl, rfl, HPA.out, HEV.out⟩
       case measure => simp [intOf] <;> omega
     · have t3 : (y.k == 3) = false := beq_eq_false_iff_ne.2 h3
       clear h3
       go_wp2_with (first
         | (go_at_call 25; refine (play_q HP.out y.k y.a y.s y.x y.y y.z HYA.out (by omega) (by omega)).mono ?_; rintro e x9 ⟨rfl, d9, hg9, P9⟩; rw [HPE.out.1] at P9; rw [HPE.out.2]; have HP9 := hid P9; have HG9 := hid hg9; clear P9 hg9)
         | (go_at_call 26; refine (l_cursors HP9.out).mono ?_; rintro e y1 ⟨rfl, K⟩; have HPA := hid (HP9.out.step K); clear K))
       go_roundw
       case rel => exact ⟨k + 1, b, _, g, _, d9, g', by omega, by go_num, rfl, by rw [HG9.out], rfl, rfl, HPA.out, HEV.out⟩
       case measure => simp [intOf] <;> omega
   · obtain rfl : k = len := by omega
     have hlt2 : decide ((k : Int) < (k : Int)) = false := decide_eq_false (by omega)
     have hltn : decide (k < k) = false := decide_eq_false (by omega)
     go_wp2_with (first
       | (go_at_call 17; refine (same HP.out.v.sh HP.out.t (by omega)).mono ?_; rintro e y1 ⟨rfl, K⟩; have HK9 := hid (HP.out.v.kp.chain K); clear K)
       | (go_at_call 20; refine (al_alive_q HK9.out).mono ?_; rintro e y2 ⟨rfl, K⟩; have HKZ := hid K; clear K))
     go_ret
     exact ⟨rfl, HKZ.out⟩
theorem al_plays (n s p : Int) (Ad : Option Addr) (len cap : Nat) (hA : QActs w Ad len) :
   Calls Tryz.prog 4 #[.int .i64 n, .int .i64 s, .int .i64 p, .slice Ad len cap] w (TrueP w) := by
 by_cases hg : 80 < len
 · exact al_plays_great n s p Ad len cap hg
 by_cases hn : 2 ≤ n ∧ n ≤ 64
 · obtain ⟨k, rfl⟩ : ∃ k : Nat, n = (k : Int) := ⟨n.toNat, by omega⟩
   by_cases h12 : 12 < k
   · exact al_plays_wide _ s p Ad len cap hg (by omega) (by omega)
   by_cases hsp : 0 ≤ s ∧ s < 8 ∧ 0 ≤ p ∧ p < 5
   · obtain ⟨s', rfl⟩ : ∃ k : Nat, s = (k : Int) := ⟨s.toNat, by omega⟩
     obtain ⟨p', rfl⟩ : ∃ k : Nat, p = (k : Int) := ⟨p.toNat, by omega⟩
     exact al_plays_good k s' p' Ad len cap hg (by omega) (by omega) (by omega) hA
   · exact al_plays_bad k s p Ad len cap hg (by omega) hsp
 · exact al_plays_none n s p Ad len cap hg hn
end
end Go.Proofs.YthndilllnneijaaGreat
