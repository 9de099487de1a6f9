/-
  The law AllocClones, walked. Conditions: those that stand in each theorem.
-/
import Derived.Test.YtmkmnlmfpddjkaaGreatPGOL
namespace Go.Proofs.YtmkmnlmfpddjkaaGreat
set_option linter.unusedVariables false
set_option linter.unusedSimpArgs false
open Go.RowKit Go.Deep Go.Maps

theorem made_any {w : World} (n s p : Int) (Ad : Option Addr) (len cap : Nat) (hA : QActs w Ad len) :
    Calls Tryz.prog 27 #[.int .i64 n, .int .i64 s, .int .i64 p, .slice Ad len cap] w (fun e w' => NoneQ w e w' ∨ ∃ n' s' p' : Nat, n = (n' : Int) ∧ s = (s' : Int) ∧ p = (p' : Int) ∧ 2 ≤ n' ∧ n' ≤ 12 ∧ s' < 8 ∧ p' < 5 ∧ MadeQ w n' s' p' e w') := by
  by_cases hg : 80 < len
  · exact (made_great n s p Ad len cap hg).mono fun e w' h => .inl h
  by_cases hn : 2 ≤ n ∧ n ≤ 12
  · obtain ⟨k, rfl⟩ : ∃ k : Nat, n = (k : Int) := ⟨n.toNat, by omega⟩
    by_cases hsp : 0 ≤ s ∧ s < 8 ∧ 0 ≤ p ∧ p < 5
    · obtain ⟨s', rfl⟩ : ∃ k : Nat, s = (k : Int) := ⟨s.toNat, by omega⟩
      obtain ⟨p', rfl⟩ : ∃ k : Nat, p = (k : Int) := ⟨p.toNat, by omega⟩
      exact (made_good k s' p' Ad len cap hg (by omega) (by omega) (by omega) hA).mono fun e w' h => .inr ⟨k, s', p', rfl, rfl, rfl, by omega, by omega, by omega, by omega, h⟩
    · exact (made_bad k s p Ad len cap hg (by omega) hsp).mono fun e w' h => .inl h
  · exact (made_out n s p Ad len cap hg hn).mono fun e w' h => .inl h
/-- What allocating shapes one after another leaves. -/
def alN (f : Nat → Int × Int × Int) (m : HM) (A : AS) : Nat → HM × AS
  | 0 => (m, A)
  | k + 1 => ((alN f m A k).1.alM (alN f m A k).2 (f k).1 (f k).2.1 (f k).2.2, (alN f m A k).1.alA (alN f m A k).2 (f k).1 (f k).2.1 (f k).2.2)
section
variable {w W V : World} {b c : HB} {m m2 : HM} {q q2 g gc B B' : Nat} {A A2 : AS}
theorem IsSh.fn {v : Value} (h : IsSh w v) : ∃ (Ad : Option Addr) (n cap : Nat) (f : Nat → Int × Int × Int), v = .slice Ad n cap ∧ n ≤ maxLen ∧ ∀ i, i < n → ∃ g o, Ad = some ⟨g, o, none⟩ ∧ w.cell? ⟨g, o + i * 3, none⟩ = some (.int .i64 (f i).1) ∧ w.cell? ⟨g, o + i * 3 + 1, none⟩ = some (.int .i64 (f i).2.1) ∧ w.cell? ⟨g, o + i * 3 + 2, none⟩ = some (.int .i64 (f i).2.2) := by
  obtain ⟨Ad, n, cap, rfl, hn, hA⟩ := h
  have h2 : ∀ i, ∃ t : Int × Int × Int, i < n → ∃ g o, Ad = some ⟨g, o, none⟩ ∧ w.cell? ⟨g, o + i * 3, none⟩ = some (.int .i64 t.1) ∧ w.cell? ⟨g, o + i * 3 + 1, none⟩ = some (.int .i64 t.2.1) ∧ w.cell? ⟨g, o + i * 3 + 2, none⟩ = some (.int .i64 t.2.2) := fun i => by
    by_cases hi : i < n
    · obtain ⟨g, o, x, d, k, h1, h2, h3, h4⟩ := hA i hi
      exact ⟨(x, d, k), fun _ => ⟨g, o, h1, h2, h3, h4⟩⟩
    · exact ⟨(0, 0, 0), fun h => absurd h hi⟩
  exact ⟨Ad, n, cap, fun i => Classical.choose (h2 i), rfl, hn, fun i hi => Classical.choose_spec (h2 i) hi⟩
theorem FarI.kpn {v : Value} {zs : List Int} {S : List Nat} (h : FarI w B v zs) (k : Kp S w W) (hS : ∀ x ∈ S, x < B) : FarI W B v zs := by
  obtain ⟨Ad, cap, rfl, h1, h2, hA⟩ := h
  exact ⟨Ad, cap, rfl, h1, h2, fun i hi => by
    obtain ⟨gg, e, hb, c⟩ := hA i hi
    exact ⟨gg, e, hb, cell_kpn k (fun hm => by have := hS gg hm; omega) c⟩⟩
/-- Two heaps with an allocator each, apart. -/
structure DU (w W : World) (b : HB) (q : Nat) (m : HM) (g : Nat) (A : AS) (c : HB) (q2 : Nat) (m2 : HM) (gc : Nat) (A2 : AS) : Prop where
  v : LV w W b q m g A
  u : LV w W c q2 m2 gc A2
  dj : ∀ x ∈ g :: b.all, x ∉ gc :: c.all
theorem DU.step (U : DU w W b q m g A c q2 m2 gc A2) (K : Kp [] W V) : DU w V b q m g A c q2 m2 gc A2 := ⟨U.v.step' K, U.u.step' K, U.dj⟩
theorem DU.symm (U : DU w W b q m g A c q2 m2 gc A2) : DU w W c q2 m2 gc A2 b q m g A := ⟨U.u, U.v, fun x hx hm => U.dj x hm hx⟩
theorem DU.alloc2 (U : DU w W b q m g A c q2 m2 gc A2) (x y z : Int) (hq : q2 ≤ 900000000) :
    Calls Tryz.prog 32 #[.pointer (some ⟨gc, 0, none⟩), .agg #[.int .i64 x, .int .i64 y, .int .i64 z]] W fun e w' => e = .returned (.tuple #[.int .i64 (m2.alV A2 x y z : Int), .int .i64 (m2.alE A2 x y z)]) ∧ DU w w' b q m g A c (q2 + 1) (m2.alM A2 x y z) gc (m2.alA A2 x y z) ∧ Kp (gc :: c.all) W w' := by
  have u := U.u
  refine (a_alloc u.sh u.al u.ok u.gb x y z hq).mono ?_
  rintro e w' ⟨rfl, h1, h2, h3⟩
  have hz : ∀ z ∈ gc :: c.all, w.heap.size ≤ z := fun z hz => by
    rcases List.mem_cons.1 hz with rfl | h
    · exact u.hg
    · exact u.hb z h
  have v := U.v
  refine ⟨rfl, ⟨⟨v.sh.kp h3 (fun x hx => U.dj x (List.mem_cons_of_mem _ hx)), v.kp.trans h3 (U := []) (by simp) (fun z h => .inr (hz z h)), v.hb, v.al.kp h3 (U.dj g (List.mem_cons_self ..)), v.hg, v.gb, v.ok⟩, ⟨h1, u.kp.trans h3 (U := []) (by simp) (fun z h => .inr (hz z h)), u.hb, h2, u.hg, u.gb, alA_ok u.sh.inv u.ok x y z⟩, U.dj⟩, h3⟩
theorem cursor_k (U : LV w W b q m g A) :
    Calls Tryz.prog 31 #[.pointer (some ⟨g, 0, none⟩)] W fun e w' => e = .returned (.tuple #[.int .i64 (A.c : Int), .int .i64 (A.l : Int), .int .i64 (A.oc : Int), .int .i64 (A.ol : Int)]) ∧ Kp [] W w' := by
  refine (a_cursor U.al).mono ?_
  rintro e w' ⟨rfl, h⟩
  exact ⟨rfl, h⟩
theorem LV.bl (U : LV w W b q m g A) : ∀ x ∈ g :: b.all, x < W.heap.size := fun x hx => by
  rcases List.mem_cons.1 hx with rfl | h
  · exact Blk.lt U.al
  · exact U.sh.lt x h
set_option maxRecDepth 100000 in
set_option maxHeartbeats 4000000 in
theorem clones_ok (n s p : Int) (Ad : Option Addr) (len cap : Nat) (hA : QActs w Ad len) (v : Value) (hv : IsSh w v) :
    Calls Tryz.prog 9 #[.int .i64 n, .int .i64 s, .int .i64 p, .slice Ad len cap, v] w (TrueP w) := by
  obtain ⟨As, ls, cs, f, rfl, hls, hf⟩ := hv.fn
  unfold maxLen at hls
  have HQA := hid hA
  have HF := hid hf
  clear hA hv hf
  go_enter Tryz.func9, Tryz.ntmps9
  go_wp2_with (fail)
  refine (made_any n s p Ad len cap HQA.out).mono ?_
  rintro e w1 (⟨rfl, K1⟩ | ⟨n', s', p', rfl, rfl, rfl, _, _, _, _, b, q, m, g, A, rfl, U1, hq, _, _⟩)
  · have HK1 := hid K1
    clear K1
    go_wp2_with (go_at_call 20; refine (al_alive_q HK1.out).mono ?_; rintro e w3 ⟨rfl, K3⟩; have HK3 := hid K3; clear K3)
    go_ret
    exact ⟨rfl, HK3.out⟩
  have HU1 := hid U1
  clear U1
  by_cases hl : 40 < ls
  · have tl : decide ((40 : Int) < (ls : Int)) = true := decide_eq_true (by omega)
    have tln : decide (40 < ls) = true := decide_eq_true hl
    go_wp2_with (go_at_call 20; refine (al_alive_q HU1.out.kp).mono ?_; rintro e w3 ⟨rfl, K3⟩; have HK3 := hid K3; clear K3)
    go_ret
    exact ⟨rfl, HK3.out⟩
  have tl : decide ((40 : Int) < (ls : Int)) = false := decide_eq_false (by omega)
  have tln : decide (40 < ls) = false := decide_eq_false hl
  go_wp2_with (first
    | (go_at_call 14; refine (h_clone HU1.out.sh).mono ?_; rintro e w2 ⟨c, rfl, S2, K2, N2⟩; have HS2 := hid S2; have HK2 := hid K2; have HN2 := hid N2; clear S2 K2 N2)
    | (go_at_call 23; refine (a_clone (HU1.out.al.kp HK2.out (by simp)) HS2.out).mono ?_; rintro e w3 ⟨gc, rfl, A3, hg3, K3⟩; have HA3 := hid A3; have HG3 := hid hg3; have HK3 := hid K3; clear A3 hg3 K3)
    | (go_at_call 28; refine (l_objects (HU1.out.sh.k0 (HK2.out.chain HK3.out))).mono ?_; rintro e w4 ⟨vo, rfl, own, bel⟩; have HO4 := hid (FarI.of_own own); have HK4 := hid (Kp.of_below bel); clear own bel))
  have HD : Hid (DU w w4 b q m g A c q m gc A) := by
    have h1 := HU1.out
    have h2 := HK2.out.size
    have h3 := HG3.out
    have h5 := h1.kp.size
    have h6 := h1.bl
    have h7 := HN2.out
    have h8 := HS2.out.lt
    refine ⟨h1.step' ((HK2.out.chain HK3.out).chain HK4.out), ⟨HS2.out.k0 (HK3.out.chain HK4.out), ((h1.kp.chain HK2.out).chain HK3.out).chain HK4.out, fun x hx => by have := h7 x hx; omega, HA3.out.kp HK4.out (by simp), by omega, fun hm => by have := h8 _ hm; omega, h1.ok⟩, fun x hx hm => ?_⟩
    have := h6 x hx
    rcases List.mem_cons.1 hm with rfl | h
    · omega
    · have := h7 x h; omega
  have HB3 : Hid (∀ x ∈ gc :: c.all, x < w3.heap.size) := fun x hx => by
    rcases List.mem_cons.1 hx with rfl | h
    · exact Blk.lt HA3.out
    · have := HS2.out.lt x h; have := HK3.out.size; omega
  clear HU1 HS2 HK2 HN2 HA3 HG3 HK3 HK4
  go_loopw [16] (fun i wr => ∃ k q' : Nat, k ≤ ls ∧ i = .int .i64 (k : Int) ∧ q' ≤ 100 + k ∧ DU w wr b q m g A c q' (alN f m A k).1 gc (alN f m A k).2 ∧ FarI wr w3.heap.size vo (objsL m m.allL.length)) (fun i _ => ls - (intOf i).toNat)
  case atStart => exact ⟨0, q, by omega, rfl, by omega, HD.out, HO4.out⟩
  case round =>
    rename World => wr
    obtain ⟨k, q', hk, rfl, hq', U, F⟩ := hrel
    have HU := hid U
    have HFO := hid F
    clear U F
    by_cases hlt : k < ls
    · have hlt2 : decide ((k : Int) < (ls : Int)) = true := decide_eq_true (by omega)
      have hltn : decide (k < ls) = true := decide_eq_true hlt
      obtain ⟨gs, os, rfl, c0, c1, c2⟩ := HF.out k hlt
      have t0 := cell_kp HU.out.v.kp c0
      have t1 := cell_kp HU.out.v.kp c1
      have t2 := cell_kp HU.out.v.kp c2
      go_wp2_with (go_at_call 32; refine (HU.out.alloc2 (f k).1 (f k).2.1 (f k).2.2 (by omega)).mono ?_; rintro e w5 ⟨rfl, U5, K5⟩; have HU5 := hid U5; have HF5 := hid (HFO.out.kpn K5 HB3.out); clear U5 K5)
      go_roundw
      case rel => exact ⟨k + 1, q' + 1, by omega, by go_num, by omega, HU5.out, HF5.out⟩
      case measure => simp [intOf]; omega
    · obtain rfl : k = ls := by omega
      have hlt2 : decide ((k : Int) < (k : Int)) = false := decide_eq_false (by omega)
      have hltn : decide (k < k) = false := decide_eq_false (by omega)
      clear HD HO4
      go_wp2_with (first
        | (go_at_call 28; refine (l_objects HU.out.v.sh).mono ?_; rintro e w6 ⟨v6, rfl, own, bel⟩; have HO6 := hid (FarI.of_own own); have HF6 := hid (HFO.out.kp0 (Kp.of_below bel)); have HU6 := hid (HU.out.step (Kp.of_below bel)); clear own bel)
        | (go_at_call 33; refine (l_same HO6.out HF6.out (r := true) (decide_eq_true rfl)).mono ?_; rintro e w7 ⟨rfl, K7⟩; have HU7 := hid (HU6.out.step K7); clear K7))
      clear HU HU6 HO6 HF6 HFO
      go_loopw [17] (fun i wr => ∃ j q2 : Nat, j ≤ k ∧ i = .int .i64 (j : Int) ∧ q2 ≤ 100 + j ∧ DU w wr c q' (alN f m A k).1 gc (alN f m A k).2 b q2 (alN f m A j).1 g (alN f m A j).2) (fun i _ => k - (intOf i).toNat)
      case atStart => exact ⟨0, q, by omega, rfl, by omega, HU7.out.symm⟩
      case round =>
        rename World => ws
        obtain ⟨j, q2, hj, rfl, hq2, U⟩ := hrel
        have HU := hid U
        clear U HU7
        by_cases hlj : j < k
        · have hlj2 : decide ((j : Int) < (k : Int)) = true := decide_eq_true (by omega)
          have hljn : decide (j < k) = true := decide_eq_true hlj
          obtain ⟨gs, os, rfl, c0, c1, c2⟩ := HF.out j hlj
          have t0 := cell_kp HU.out.v.kp c0
          have t1 := cell_kp HU.out.v.kp c1
          have t2 := cell_kp HU.out.v.kp c2
          go_wp2_with (go_at_call 32; refine (HU.out.alloc2 (f j).1 (f j).2.1 (f j).2.2 (by omega)).mono ?_; rintro e w5 ⟨rfl, U5, K5⟩; have HU5 := hid U5; clear U5 K5)
          go_roundw
          case rel => exact ⟨j + 1, q2 + 1, by omega, by go_num, by omega, HU5.out⟩
          case measure => simp [intOf]; omega
        · obtain rfl : j = k := by omega
          have hlj2 : decide ((j : Int) < (j : Int)) = false := decide_eq_false (by omega)
          have hljn : decide (j < j) = false := decide_eq_false (by omega)
          generalize (alN f m A j).1 = mF at HU
          generalize (alN f m A j).2 = AF at HU
          go_wp2_with (first
            | (go_at_call 31; refine (cursor_k HV1.out.v).mono ?_; rintro e x2 ⟨rfl, K⟩; have HV2 := hid (HV1.out.step K); clear K)
            | (go_at_call 31; refine (cursor_k HU.out.u).mono ?_; rintro e x1 ⟨rfl, K⟩; have HV1 := hid (HU.out.step K); clear K)
            | (go_at_call 28; refine (l_objects HV3.out.v.sh).mono ?_; rintro e x4 ⟨v4, rfl, own, bel⟩; have HR4 := hid (FarI.of_own own); have HR3' := hid (HR3.out.kp0 (Kp.of_below bel)); have HV4 := hid (HV3.out.step (Kp.of_below bel)); clear own bel)
            | (go_at_call 28; refine (l_objects HV2.out.u.sh).mono ?_; rintro e x3 ⟨v3, rfl, own, bel⟩; have HR3 := hid (FarI.of_own own); have HV3 := hid (HV2.out.step (Kp.of_below bel)); clear own bel)
            | (go_at_call 29; refine (l_states HV6.out.v.sh).mono ?_; rintro e x7 ⟨v7, rfl, own, bel⟩; have HR7 := hid (FarI.of_own own); have HR6' := hid (HR6.out.kp0 (Kp.of_below bel)); have HV7 := hid (HV6.out.step (Kp.of_below bel)); clear own bel)
            | (go_at_call 29; refine (l_states HV5.out.u.sh).mono ?_; rintro e x6 ⟨v6, rfl, own, bel⟩; have HR6 := hid (FarI.of_own own); have HV6 := hid (HV5.out.step (Kp.of_below bel)); clear own bel)
            | (go_at_call 33; refine (l_same HR6'.out HR7.out (r := true) (decide_eq_true rfl)).mono ?_; rintro e x8 ⟨rfl, K⟩; have HV8 := hid (HV7.out.step K); clear K)
            | (go_at_call 33; refine (l_same HR3'.out HR4.out (r := true) (decide_eq_true rfl)).mono ?_; rintro e x5 ⟨rfl, K⟩; have HV5 := hid (HV4.out.step K); clear K)
            | (go_at_call 20; refine (al_alive_q HV8.out.v.kp).mono ?_; rintro e x9 ⟨rfl, K⟩; have HK9 := hid K; clear K))
          go_ret
          exact ⟨rfl, HK9.out⟩
end
end Go.Proofs.YtmkmnlmfpddjkaaGreat
