/-
  The contract of the document's Alloc. Conditions: those that stand in each theorem.
-/
import Derived.Test.YthndilllnneijaaGreatPGOI
import Derived.Test.YthndilllnneijaaGreatPGJI
import Derived.Test.YthndilllnneijaaGreatPG6
import Derived.Test.YthndilllnneijaaGreatPG9
import Derived.Test.YthndilllnneijaaGreatPG17
import Derived.Test.YthndilllnneijaaGreatPG16
import Derived.Test.YthndilllnneijaaGreatPG13
set_option linter.unusedSimpArgs false
set_option linter.unusedVariables false
set_option maxRecDepth 100000
set_option maxHeartbeats 2000000
namespace Go.Proofs.YthndilllnneijaaGreat
open Go.RowKit Go.Deep Go.Maps
section
variable {w W V : World} {d0 d : DB} {m m' : HM} {q q' g g3 : Nat} {A A2 : AS}
theorem RAL.po_ (h : RAL W g d A) {p : Nat} (hp : A.po = p) : W.cell? ⟨g, 2, none⟩ = some (.int .i64 (p : Int)) := by rw [← hp]; exact h.cell 2
theorem RB.made {x y z : Int} (u : RB w W d0 d q m g A g3 x y z) :
   Calls Tryz.prog 100 #[.pointer (some ⟨g, 0, none⟩)] W fun e w' => e = .returned (.bool true) ∧ RB w w' d0 d q m g A g3 x y z := by
 refine (r_made u.rs.al u.rs.dr).mono ?_
 rintro e w' ⟨rfl, K⟩
 exact ⟨rfl, u.step K⟩
theorem RB.valid {x y z : Int} (u : RB w W d0 d q m g A g3 x y z) (r s t : Int) {v : Bool} (hv : vldB r s t = v) :
   Calls Tryz.prog 136 #[.agg #[.int .i64 r, .int .i64 s, .int .i64 t]] W fun e w' => e = .returned (.bool v) ∧ RB w w' d0 d q m g A g3 x y z := by
 refine (r_valid r s t W).mono ?_
 rintro e w' ⟨rfl, K⟩
 rw [hv]
 exact ⟨rfl, u.step K⟩
theorem RB.large {x y z : Int} (u : RB w W d0 d q m g A g3 x y z) {r s t : Nat} (hv : vldB r s t = true) {n : Nat} (hn : wdN r s = n) {v : Bool} (h : decide (32 < n) = v) :
   Calls Tryz.prog 165 #[.agg #[.int .i64 (r : Int), .int .i64 (s : Int), .int .i64 (t : Int)]] W fun e w' => e = .returned (.bool v) ∧ RB w w' d0 d q m g A g3 x y z := by
 refine (r_large hv W).mono ?_
 rintro e w' ⟨rfl, K⟩
 rw [hn, h]
 exact ⟨rfl, u.step K⟩
theorem RB.need {x y z : Int} (u : RB w W d0 d q m g A g3 x y z) {r s t : Nat} (hv : vldB r s t = true) {k : Nat} (hn : (wdN r s + 63) / 64 = k) :
   Calls Tryz.prog 166 #[.agg #[.int .i64 (r : Int), .int .i64 (s : Int), .int .i64 (t : Int)]] W fun e w' => e = .returned (.int .i64 (k : Int)) ∧ RB w w' d0 d q m g A g3 x y z := by
 refine (r_need hv W).mono ?_
 rintro e w' ⟨rfl, K⟩
 rw [hn]
 exact ⟨rfl, u.step K⟩
theorem RB.words {x y z : Int} (u : RB w W d0 d q m g A g3 x y z) {r s t : Nat} (hv : vldB r s t = true) {n : Nat} (hn : wdN r s = n) :
   Calls Tryz.prog 153 #[.agg #[.int .i64 (r : Int), .int .i64 (s : Int), .int .i64 (t : Int)]] W fun e w' => e = .returned (.int .i64 (n : Int)) ∧ RB w w' d0 d q m g A g3 x y z := by
 refine (r_words _ _ _ W).mono ?_
 rintro e w' ⟨rfl, K⟩
 rw [show wordsI (r : Int) (s : Int) (t : Int) = (n : Int) by unfold wordsI; rw [if_pos hv, Int.toNat_natCast, Int.toNat_natCast, hn]]
 exact ⟨rfl, u.step K⟩
theorem RB.choose {x y z : Int} (u : RB w W d0 d q m g A g3 x y z) (hA : A.Ok) (n : Nat) (hn1 : 1 ≤ n) (hn : n ≤ 32) {R : Option Nat} (hR : m.rcO A n = R) :
   Calls Tryz.prog 171 #[.pointer (some ⟨g, 0, none⟩), .int .i64 (n : Int)] W fun e w' => e = .returned (chV R) ∧ RB w w' d0 d q m g A g3 x y z := by
 refine (r_choose u.rs.dr u.rs.al (Blk.lt u.rs.al) hA n hn1 hn).mono ?_
 rintro e w' ⟨rfl, K⟩
 rw [hR]
 exact ⟨rfl, u.step K⟩
theorem RB.claimL {x y z : Int} (u : RB w W d0 d q m g A g3 x y z) (i n s : Int) (hm : m.claimM i n s 2 = m') :
   Calls Tryz.prog 62 #[.pointer (some ⟨d0.g, 0, none⟩), .int .i64 i, .int .i64 n, .int .i64 s] W fun e w' => e = .returned (.int .i64 (m.claimE i n s)) ∧ ∃ d', RB w w' d0 d' q m' g A g3 x y z := by
 rw [← u.rs.gg]
 refine (d_ClaimLarge u.rs.dr i n s).mono ?_
 rintro e w' ⟨rfl, D⟩
 rw [hm] at D
 exact ⟨rfl, u.heap D⟩
theorem rcO_bd {m : HM} (I : m.Inv) (A : AS) {n a : Nat} (hc : A.c ≤ 8192) (h : m.rcO A n = some a) : a ≤ 4096 ∨ (a ≤ 8192 ∧ a + n ≤ 4096) := by
 unfold HM.rcO at h
 split at h
 · rename_i b hb
   injection h with h
   subst h
   split at hb
   · unfold nxO at hb
     rw [Option.map_eq_some_iff] at hb
     obtain ⟨x, hx, rfl⟩ := hb
     have h1 := List.mem_of_find?_eq_some hx
     have h2 := List.find?_some hx
     have h3 := rgL_bd I h1
     unfold fitA areaOf at h2
     have h4 := of_decide_eq_true h2
     simp only at h4
     exact .inr (by omega)
   · cases hb
 · rw [Option.map_eq_some_iff] at h
   obtain ⟨x, hx, rfl⟩ := h
   have h3 := rgL_bd I (beO_mem hx).1
   exact .inl (by omega)
theorem r_alloc_bad (u : RS w W d0 d q m g A) {x y z : Int} (hv : vldB x y z = false) :
   Calls Tryz.prog 101 #[.pointer (some ⟨g, 0, none⟩), .agg #[.int .i64 x, .int .i64 y, .int .i64 z]] W fun e w' => e = .returned (.tuple #[.int .i64 0, .int .i64 2]) ∧ ∃ d', RS w w' d0 d' (q + 1) m g A := by
 have HU := hid (RB.start u x y z)
 have ub := RB.start u x y z
 have HV := hid hv
 have b0 := ub.b3.cell 0
 have b1 := ub.b3.cell 1
 have b2 := ub.b3.cell 2
 clear u ub hv
 go_enter Tryz.func101, Tryz.ntmps101
 go_wp2_with (first
   | (go_at_call 100; refine HU.out.made.mono ?_; rintro e w1 ⟨rfl, U1⟩; have HU1 := hid U1; have i3 := U1.b3.cell 0; have i4 := U1.b3.cell 1; have i5 := U1.b3.cell 2; clear U1)
   | (go_at_call 136; refine (HU1.out.valid _ _ _ HV.out).mono ?_; rintro e w2 ⟨rfl, U2⟩; have HU2 := hid U2; clear U2))
 go_ret2
 exact ⟨rfl, _, HU2.out.rs.mono (by omega)⟩
theorem r_alloc_bump (u : RS w W d0 d q m g A) (hA : A.Ok) {x y z : Nat} (hv : vldB x y z = true) (hq : q ≤ 800000000) {n : Nat} (hn : wdN x y = n) (h32 : n ≤ 32) (hp : A.po = 3) :
   Calls Tryz.prog 101 #[.pointer (some ⟨g, 0, none⟩), .agg #[.int .i64 (x : Int), .int .i64 (y : Int), .int .i64 (z : Int)]] W fun e w' => e = .returned (.tuple #[.int .i64 (m.ruV A.sp A.c A.l n x y z), .int .i64 (m.ruE A.sp A.c A.l n x y z)]) ∧ ∃ d', RS w w' d0 d' (q + 1) (m.ruM A.sp A.c A.l n x y z) g ({ A with c := (m.ruC A.sp A.c A.l n x y z).1, l := (m.ruC A.sp A.c A.l n x y z).2 }) := by
 have HV := hid hv
 have HAO := hid hA
 have HNW := hid hn
 have HU := hid (RB.start u (x : Int) (y : Int) (z : Int))
 have ub := RB.start u (x : Int) (y : Int) (z : Int)
 obtain ⟨po, hpo⟩ : ∃ k, A.po = k := ⟨_, rfl⟩
 obtain ⟨s, hs⟩ : ∃ k, A.sp = k := ⟨_, rfl⟩
 have hb3 := vldB_bd hv
 have hnb := wdN_bd hb3.1 hb3.2.1
 rw [hn] at hnb
 obtain ⟨hn1, hn3, _, _⟩ := hnb
 have hn2 : 1 ≤ n := by omega
 have HPO := hid hpo
 have HSP := hid hs
 have c0 := ub.rs.c0
 have c1 := ub.rs.al.sp_ hs
 have c2 : (W.alloc (.cells #[.int .i64 (x : Int), .int .i64 (y : Int), .int .i64 (z : Int)] 33)).cell? ⟨g, 2, none⟩ = some (.int .i64 (po : Int)) := by rw [← hpo]; exact ub.rs.al.cell 2
 have b0 := ub.b3.cell 0
 have b1 := ub.b3.cell 1
 have b2 := ub.b3.cell 2
 have HC := hid (fun (W' : World) (U' : RB w W' d0 d q m g A W.heap.size x y z) => (r_bump U'.rs hA hv h32 hq))
 have HLG : Hid (decide (32 < n) = false) := decide_eq_false (by omega)
 have tp : ((po : Int) == 3) = true := beq_iff_eq.2 (by omega)
 have tp4 : ((po : Int) == 4) = false := beq_eq_false_iff_ne.2 (by omega)
 generalize (m.ruV A.sp A.c A.l n x y z) = rv at HC ⊢
 generalize (m.ruE A.sp A.c A.l n x y z) = re at HC ⊢
 generalize (m.ruM A.sp A.c A.l n x y z) = rm at HC ⊢
 generalize ({ A with c := (m.ruC A.sp A.c A.l n x y z).1, l := (m.ruC A.sp A.c A.l n x y z).2 } : AS) = rA at HC ⊢
 clear u hA hv hn hpo hs ub hp
 go_enter Tryz.func101, Tryz.ntmps101
 go_wp2_with (first
   | (go_at_call 100; refine HU.out.made.mono ?_; rintro e w1 ⟨rfl, U1⟩; have HU1 := hid U1; have i0 := U1.rs.c0; have i1 := U1.rs.al.sp_ HSP.out; have i2 := RAL.po_ U1.rs.al HPO.out; have i3 := U1.b3.cell 0; have i4 := U1.b3.cell 1; have i5 := U1.b3.cell 2; clear U1)
   | (go_at_call 136; refine (HU1.out.valid _ _ _ HV.out).mono ?_; rintro e w2 ⟨rfl, U2⟩; have HU2 := hid U2; have j0 := U2.rs.c0; have j1 := U2.rs.al.sp_ HSP.out; have j2 := RAL.po_ U2.rs.al HPO.out; have j3 := U2.b3.cell 0; have j4 := U2.b3.cell 1; have j5 := U2.b3.cell 2; clear U2)
   | (go_at_call 165; refine (HU2.out.large HV.out HNW.out HLG.out).mono ?_; rintro e w3 ⟨rfl, U3⟩; have HU3 := hid U3; have k0 := U3.rs.c0; have k1 := U3.rs.al.sp_ HSP.out; have k2 := RAL.po_ U3.rs.al HPO.out; have k3 := U3.b3.cell 0; have k4 := U3.b3.cell 1; have k5 := U3.b3.cell 2; clear U3)
   | (go_at_call 153; refine (HU3.out.words HV.out HNW.out).mono ?_; rintro e w4 ⟨rfl, U4⟩; have HU4 := hid U4; have l0 := U4.rs.c0; have l1 := U4.rs.al.sp_ HSP.out; have l2 := RAL.po_ U4.rs.al HPO.out; have l3 := U4.b3.cell 0; have l4 := U4.b3.cell 1; have l5 := U4.b3.cell 2; clear U4)
   | (go_at_call 169; refine (HC.out _ HU4.out).mono ?_; rintro e w5 ⟨rfl, d5, U5⟩; have HU5 := hid U5; clear U5))
 go_ret2
 exact ⟨rfl, d5, HU5.out⟩
theorem r_alloc_lines (u : RS w W d0 d q m g A) (hA : A.Ok) {x y z : Nat} (hv : vldB x y z = true) (hq : q ≤ 800000000) {n : Nat} (hn : wdN x y = n) (h32 : n ≤ 32) (hp : A.po = 4) :
   Calls Tryz.prog 101 #[.pointer (some ⟨g, 0, none⟩), .agg #[.int .i64 (x : Int), .int .i64 (y : Int), .int .i64 (z : Int)]] W fun e w' => e = .returned (.tuple #[.int .i64 (m.rlV A n x y z), .int .i64 (m.rlE A n x y z)]) ∧ ∃ d', RS w w' d0 d' (q + 1) (m.rlM A n x y z) g (m.rlA A n x y z) := by
 have HV := hid hv
 have HAO := hid hA
 have HNW := hid hn
 have HU := hid (RB.start u (x : Int) (y : Int) (z : Int))
 have ub := RB.start u (x : Int) (y : Int) (z : Int)
 obtain ⟨po, hpo⟩ : ∃ k, A.po = k := ⟨_, rfl⟩
 obtain ⟨s, hs⟩ : ∃ k, A.sp = k := ⟨_, rfl⟩
 have hb3 := vldB_bd hv
 have hnb := wdN_bd hb3.1 hb3.2.1
 rw [hn] at hnb
 obtain ⟨hn1, hn3, _, _⟩ := hnb
 have hn2 : 1 ≤ n := by omega
 have HPO := hid hpo
 have HSP := hid hs
 have c0 := ub.rs.c0
 have c1 := ub.rs.al.sp_ hs
 have c2 : (W.alloc (.cells #[.int .i64 (x : Int), .int .i64 (y : Int), .int .i64 (z : Int)] 33)).cell? ⟨g, 2, none⟩ = some (.int .i64 (po : Int)) := by rw [← hpo]; exact ub.rs.al.cell 2
 have b0 := ub.b3.cell 0
 have b1 := ub.b3.cell 1
 have b2 := ub.b3.cell 2
 have HC := hid (fun (W' : World) (U' : RB w W' d0 d q m g A W.heap.size x y z) => (r_lines U'.rs hA hv hn2 h32 hq))
 have HLG : Hid (decide (32 < n) = false) := decide_eq_false (by omega)
 have tp : ((po : Int) == 3) = false := beq_eq_false_iff_ne.2 (by omega)
 have tp4 : ((po : Int) == 4) = true := beq_iff_eq.2 (by omega)
 generalize (m.rlV A n x y z) = rv at HC ⊢
 generalize (m.rlE A n x y z) = re at HC ⊢
 generalize (m.rlM A n x y z) = rm at HC ⊢
 generalize (m.rlA A n x y z : AS) = rA at HC ⊢
 clear u hA hv hn hpo hs ub hp
 go_enter Tryz.func101, Tryz.ntmps101
 go_wp2_with (first
   | (go_at_call 100; refine HU.out.made.mono ?_; rintro e w1 ⟨rfl, U1⟩; have HU1 := hid U1; have i0 := U1.rs.c0; have i1 := U1.rs.al.sp_ HSP.out; have i2 := RAL.po_ U1.rs.al HPO.out; have i3 := U1.b3.cell 0; have i4 := U1.b3.cell 1; have i5 := U1.b3.cell 2; clear U1)
   | (go_at_call 136; refine (HU1.out.valid _ _ _ HV.out).mono ?_; rintro e w2 ⟨rfl, U2⟩; have HU2 := hid U2; have j0 := U2.rs.c0; have j1 := U2.rs.al.sp_ HSP.out; have j2 := RAL.po_ U2.rs.al HPO.out; have j3 := U2.b3.cell 0; have j4 := U2.b3.cell 1; have j5 := U2.b3.cell 2; clear U2)
   | (go_at_call 165; refine (HU2.out.large HV.out HNW.out HLG.out).mono ?_; rintro e w3 ⟨rfl, U3⟩; have HU3 := hid U3; have k0 := U3.rs.c0; have k1 := U3.rs.al.sp_ HSP.out; have k2 := RAL.po_ U3.rs.al HPO.out; have k3 := U3.b3.cell 0; have k4 := U3.b3.cell 1; have k5 := U3.b3.cell 2; clear U3)
   | (go_at_call 153; refine (HU3.out.words HV.out HNW.out).mono ?_; rintro e w4 ⟨rfl, U4⟩; have HU4 := hid U4; have l0 := U4.rs.c0; have l1 := U4.rs.al.sp_ HSP.out; have l2 := RAL.po_ U4.rs.al HPO.out; have l3 := U4.b3.cell 0; have l4 := U4.b3.cell 1; have l5 := U4.b3.cell 2; clear U4)
   | (go_at_call 170; refine (HC.out _ HU4.out).mono ?_; rintro e w5 ⟨rfl, d5, U5⟩; have HU5 := hid U5; clear U5))
 go_ret2
 exact ⟨rfl, d5, HU5.out⟩
theorem r_alloc_large (u : RS w W d0 d q m g A) (hA : A.Ok) {x y z : Nat} (hv : vldB x y z = true) (hq : q ≤ 800000000) {n : Nat} (hn : wdN x y = n) (h32 : 32 < n) :
   Calls Tryz.prog 101 #[.pointer (some ⟨g, 0, none⟩), .agg #[.int .i64 (x : Int), .int .i64 (y : Int), .int .i64 (z : Int)]] W fun e w' => e = .returned (.tuple #[.int .i64 ((m.raL A n x y z).1.1), .int .i64 ((m.raL A n x y z).1.2)]) ∧ ∃ d', RS w w' d0 d' (q + 1) ((m.raL A n x y z).2.1) g ((m.raL A n x y z).2.2) := by
 have HV := hid hv
 have HAO := hid hA
 have HNW := hid hn
 have HU := hid (RB.start u (x : Int) (y : Int) (z : Int))
 have ub := RB.start u (x : Int) (y : Int) (z : Int)
 obtain ⟨po, hpo⟩ : ∃ k, A.po = k := ⟨_, rfl⟩
 obtain ⟨s, hs⟩ : ∃ k, A.sp = k := ⟨_, rfl⟩
 have hb3 := vldB_bd hv
 have hnb := wdN_bd hb3.1 hb3.2.1
 rw [hn] at hnb
 obtain ⟨hn1, hn3, _, _⟩ := hnb
 have hn2 : 1 ≤ n := by omega
 have HPO := hid hpo
 have HSP := hid hs
 have c0 := ub.rs.c0
 have c1 := ub.rs.al.sp_ hs
 have c2 : (W.alloc (.cells #[.int .i64 (x : Int), .int .i64 (y : Int), .int .i64 (z : Int)] 33)).cell? ⟨g, 2, none⟩ = some (.int .i64 (po : Int)) := by rw [← hpo]; exact ub.rs.al.cell 2
 have b0 := ub.b3.cell 0
 have b1 := ub.b3.cell 1
 have b2 := ub.b3.cell 2
 have HLG : Hid (decide (32 < n) = true) := decide_eq_true (by omega)
 obtain ⟨k, hk⟩ : ∃ k, (n + 63) / 64 = k := ⟨_, rfl⟩
 have hk1 : 1 ≤ k := by omega
 have hk2 : k ≤ 1000 := by omega
 have HK : Hid ((wdN x y + 63) / 64 = k) := by show _ = _; rw [hn, hk]
 have HFB : Hid (m.freeB k ≤ 4096) := freeB_le m k u.dr.inv
 have hm64 := freeB_mod (m := m) (c := k) hk1
 obtain ⟨fb, hfb⟩ : ∃ f, m.freeB k / 64 = f := ⟨_, rfl⟩
 have HF := hid hfb
 by_cases h0 : m.freeB k = 0
 · rw [show m.raL A n x y z = ((0, 6), (m, A)) by unfold HM.raL; rw [hk, if_pos h0]]
   have tb : ((fb : Int) == 0) = true := beq_iff_eq.2 (by omega)
   have hfb0 : fb = 0 := by omega
   subst hfb0
   clear u hA hv hn hpo hs ub h0 hk hm64 hfb
   go_enter Tryz.func101, Tryz.ntmps101
   go_wp2_with (first
     | (go_at_call 100; refine HU.out.made.mono ?_; rintro e w1 ⟨rfl, U1⟩; have HU1 := hid U1; have i0 := U1.rs.c0; have i1 := U1.rs.al.sp_ HSP.out; have i2 := RAL.po_ U1.rs.al HPO.out; have i3 := U1.b3.cell 0; have i4 := U1.b3.cell 1; have i5 := U1.b3.cell 2; clear U1)
     | (go_at_call 136; refine (HU1.out.valid _ _ _ HV.out).mono ?_; rintro e w2 ⟨rfl, U2⟩; have HU2 := hid U2; have j0 := U2.rs.c0; have j1 := U2.rs.al.sp_ HSP.out; have j2 := RAL.po_ U2.rs.al HPO.out; have j3 := U2.b3.cell 0; have j4 := U2.b3.cell 1; have j5 := U2.b3.cell 2; clear U2)
     | (go_at_call 165; refine (HU2.out.large HV.out HNW.out HLG.out).mono ?_; rintro e w3 ⟨rfl, U3⟩; have HU3 := hid U3; have k0 := U3.rs.c0; have k1 := U3.rs.al.sp_ HSP.out; have k2 := RAL.po_ U3.rs.al HPO.out; have k3 := U3.b3.cell 0; have k4 := U3.b3.cell 1; have k5 := U3.b3.cell 2; clear U3)
     | (go_at_call 166; refine (HU3.out.need HV.out HK.out).mono ?_; rintro e w4 ⟨rfl, U4⟩; have HU4 := hid U4; have l0 := U4.rs.c0; have l1 := U4.rs.al.sp_ HSP.out; have l2 := RAL.po_ U4.rs.al HPO.out; have l3 := U4.b3.cell 0; have l4 := U4.b3.cell 1; have l5 := U4.b3.cell 2; clear U4)
     | (go_at_call 167; refine (HU4.out.free k hk1 hk2 HF.out).mono ?_; rintro e w5 ⟨rfl, U5⟩; have HU5 := hid U5; have o0 := U5.rs.c0; have o1 := U5.rs.al.sp_ HSP.out; have o2 := RAL.po_ U5.rs.al HPO.out; have o3 := U5.b3.cell 0; have o4 := U5.b3.cell 1; have o5 := U5.b3.cell 2; clear U5))
   go_ret2
   exact ⟨rfl, _, HU5.out.rs.mono (by omega)⟩
 · obtain ⟨m1, hm1⟩ : ∃ v, m.claimM (fb : Int) (k : Int) (s : Int) 2 = v := ⟨_, rfl⟩
   have HM1 := hid hm1
   rw [show m.raL A n x y z = ((m1.rpV A.sp (fb * 64) 0 x y z, m1.rpE A.sp (fb * 64) 0 x y z), (m1.rpM A.sp (fb * 64) 0 x y z, A)) by unfold HM.raL; rw [hk, if_neg h0, hfb, hs, hm1]]
   have hfle := HFB.out
   have hfb1 : fb ≤ 64 := by omega
   have tb : ((fb : Int) == 0) = false := beq_eq_false_iff_ne.2 (by omega)
   simp only
   obtain ⟨pv, hpv⟩ : ∃ v, m1.rpV A.sp (fb * 64) 0 x y z = v := ⟨_, rfl⟩
   obtain ⟨pe, hpe⟩ : ∃ v, m1.rpE A.sp (fb * 64) 0 x y z = v := ⟨_, rfl⟩
   obtain ⟨pm, hpm⟩ : ∃ v, m1.rpM A.sp (fb * 64) 0 x y z = v := ⟨_, rfl⟩
   have HPV := hid hpv
   have HPE := hid hpe
   have HPM := hid hpm
   rw [hpv, hpe, hpm]
   clear u hA hv hn hpo hs ub h0 hk hm64 hfb hm1 hpv hpe hpm hfle
   go_enter Tryz.func101, Tryz.ntmps101
   go_wp2_with (first
     | (go_at_call 100; refine HU.out.made.mono ?_; rintro e w1 ⟨rfl, U1⟩; have HU1 := hid U1; have i0 := U1.rs.c0; have i1 := U1.rs.al.sp_ HSP.out; have i2 := RAL.po_ U1.rs.al HPO.out; have i3 := U1.b3.cell 0; have i4 := U1.b3.cell 1; have i5 := U1.b3.cell 2; clear U1)
     | (go_at_call 136; refine (HU1.out.valid _ _ _ HV.out).mono ?_; rintro e w2 ⟨rfl, U2⟩; have HU2 := hid U2; have j0 := U2.rs.c0; have j1 := U2.rs.al.sp_ HSP.out; have j2 := RAL.po_ U2.rs.al HPO.out; have j3 := U2.b3.cell 0; have j4 := U2.b3.cell 1; have j5 := U2.b3.cell 2; clear U2)
     | (go_at_call 165; refine (HU2.out.large HV.out HNW.out HLG.out).mono ?_; rintro e w3 ⟨rfl, U3⟩; have HU3 := hid U3; have k0 := U3.rs.c0; have k1 := U3.rs.al.sp_ HSP.out; have k2 := RAL.po_ U3.rs.al HPO.out; have k3 := U3.b3.cell 0; have k4 := U3.b3.cell 1; have k5 := U3.b3.cell 2; clear U3)
     | (go_at_call 166; refine (HU3.out.need HV.out HK.out).mono ?_; rintro e w4 ⟨rfl, U4⟩; have HU4 := hid U4; have l0 := U4.rs.c0; have l1 := U4.rs.al.sp_ HSP.out; have l2 := RAL.po_ U4.rs.al HPO.out; have l3 := U4.b3.cell 0; have l4 := U4.b3.cell 1; have l5 := U4.b3.cell 2; clear U4)
     | (go_at_call 167; refine (HU4.out.free k hk1 hk2 HF.out).mono ?_; rintro e w5 ⟨rfl, U5⟩; have HU5 := hid (U5.step (Kp.draw _ 1)); have o0 := U5.rs.c0; have o1 := U5.rs.al.sp_ HSP.out; clear U5))
   go_region_held3 (fun W' => W'.cell? ⟨g, 0, none⟩ = some (.pointer (some ⟨d0.g, 0, none⟩)) ∧ W'.cell? ⟨g, 1, none⟩ = some (.int .i64 (s : Int))) (go_keep)
     (first
       | (go_at_call 62; refine (HU5.out.claimL _ _ _ HM1.out).mono ?_; rintro e w6 ⟨rfl, d6, U6⟩; have HU6 := hid (U6.step (Kp.draw _ 1)); have p0 := U6.rs.c0; have p1 := U6.rs.al.sp_ HSP.out; have p2 := RAL.po_ U6.rs.al HPO.out; have p3 := U6.b3.cell 0; have p4 := U6.b3.cell 1; have p5 := U6.b3.cell 2))
   go_wp2_with (go_at_call 168; refine (U6.plc (fb * 64) 0 (by omega) HV.out (by omega) (by omega) rfl HPV.out HPE.out HPM.out).mono ?_; rintro e w7 ⟨rfl, d7, U7, _⟩; have HU7 := hid U7; clear U7)
   go_ret2
   exact ⟨rfl, d7, HU7.out⟩
theorem r_alloc_fit (u : RS w W d0 d q m g A) (hA : A.Ok) {x y z : Nat} (hv : vldB x y z = true) (hq : q ≤ 800000000) {n : Nat} (hn : wdN x y = n) (h32 : n ≤ 32) (hp3 : A.po ≤ 2) :
   Calls Tryz.prog 101 #[.pointer (some ⟨g, 0, none⟩), .agg #[.int .i64 (x : Int), .int .i64 (y : Int), .int .i64 (z : Int)]] W fun e w' => e = .returned (.tuple #[.int .i64 (m.rfV A n x y z), .int .i64 (m.rfE A n x y z)]) ∧ ∃ d', RS w w' d0 d' (q + 1) (m.rfM A n x y z) g (m.rfC A n x y z) := by
 have HV := hid hv
 have HAO := hid hA
 have HNW := hid hn
 have HU := hid (RB.start u (x : Int) (y : Int) (z : Int))
 have ub := RB.start u (x : Int) (y : Int) (z : Int)
 obtain ⟨po, hpo⟩ : ∃ k, A.po = k := ⟨_, rfl⟩
 obtain ⟨s, hs⟩ : ∃ k, A.sp = k := ⟨_, rfl⟩
 have hb3 := vldB_bd hv
 have hnb := wdN_bd hb3.1 hb3.2.1
 rw [hn] at hnb
 obtain ⟨hn1, hn3, _, _⟩ := hnb
 have hn2 : 1 ≤ n := by omega
 have HPO := hid hpo
 have HSP := hid hs
 have c0 := ub.rs.c0
 have c1 := ub.rs.al.sp_ hs
 have c2 : (W.alloc (.cells #[.int .i64 (x : Int), .int .i64 (y : Int), .int .i64 (z : Int)] 33)).cell? ⟨g, 2, none⟩ = some (.int .i64 (po : Int)) := by rw [← hpo]; exact ub.rs.al.cell 2
 have b0 := ub.b3.cell 0
 have b1 := ub.b3.cell 1
 have b2 := ub.b3.cell 2
 have HLG : Hid (decide (32 < n) = false) := decide_eq_false (by omega)
 have tp3 : ((po : Int) == 3) = false := beq_eq_false_iff_ne.2 (by omega)
 have tp4 : ((po : Int) == 4) = false := beq_eq_false_iff_ne.2 (by omega)
 have HFB : Hid (m.freeB 1 ≤ 4096) := freeB_le m 1 u.dr.inv
 have hm64 := freeB_64 m
 obtain ⟨R, hR⟩ : ∃ R, m.rcO A n = R := ⟨_, rfl⟩
 have HR := hid hR
 have hRb := fun a h => rcO_bd u.dr.inv A (n := n) (a := a) hA.c h
 rw [hR] at hRb
 obtain ⟨fb, hfb⟩ : ∃ f, m.freeB 1 / 64 = f := ⟨_, rfl⟩
 have HF := hid hfb
 rcases R with _ | a
 · by_cases h0 : m.freeB 1 = 0
   · have hN : m.rfN A n = true := by unfold HM.rfN; rw [hR, h0]; rfl
     have re : m.rfE A n x y z = 6 := by unfold HM.rfE HM.pgE; rw [hN]; rfl
     have rv : m.rfV A n x y z = 0 := by unfold HM.rfV HM.pgV; rw [hN]; rfl
     have rm : m.rfM A n x y z = m := by unfold HM.rfM HM.pgM; rw [hN]; rfl
     have rc : m.rfC A n x y z = A := by unfold HM.rfC; rw [re]; rfl
     rw [re, rv, rm, rc]
     have hfb0 : fb = 0 := by omega
     subst hfb0
     clear re rv rm rc hN u hA hv hn hpo hs ub hR hfb h0 hm64 hRb HFB
     go_enter Tryz.func101, Tryz.ntmps101
     go_wp2_with (first
       | (go_at_call 100; refine HU.out.made.mono ?_; rintro e w1 ⟨rfl, U1⟩; have HU1 := hid U1; have i0 := U1.rs.c0; have i1 := U1.rs.al.sp_ HSP.out; have i2 := RAL.po_ U1.rs.al HPO.out; have i3 := U1.b3.cell 0; have i4 := U1.b3.cell 1; have i5 := U1.b3.cell 2; clear U1)
       | (go_at_call 136; refine (HU1.out.valid _ _ _ HV.out).mono ?_; rintro e w2 ⟨rfl, U2⟩; have HU2 := hid U2; have j0 := U2.rs.c0; have j1 := U2.rs.al.sp_ HSP.out; have j2 := RAL.po_ U2.rs.al HPO.out; have j3 := U2.b3.cell 0; have j4 := U2.b3.cell 1; have j5 := U2.b3.cell 2; clear U2)
       | (go_at_call 165; refine (HU2.out.large HV.out HNW.out HLG.out).mono ?_; rintro e w3 ⟨rfl, U3⟩; have HU3 := hid U3; have k0 := U3.rs.c0; have k1 := U3.rs.al.sp_ HSP.out; have k2 := RAL.po_ U3.rs.al HPO.out; have k3 := U3.b3.cell 0; have k4 := U3.b3.cell 1; have k5 := U3.b3.cell 2; clear U3)
       | (go_at_call 153; refine (HU3.out.words HV.out HNW.out).mono ?_; rintro e w4 ⟨rfl, U4⟩; have HU4 := hid U4; have l0 := U4.rs.c0; have l1 := U4.rs.al.sp_ HSP.out; have l2 := RAL.po_ U4.rs.al HPO.out; have l3 := U4.b3.cell 0; have l4 := U4.b3.cell 1; have l5 := U4.b3.cell 2; clear U4)
       | (go_at_call 171; refine (HU4.out.choose HAO.out n hn2 h32 HR.out).mono ?_; rintro e w5 ⟨rfl, U5⟩; have HU5 := hid U5; unfold chV; have o0 := U5.rs.c0; have o1 := U5.rs.al.sp_ HSP.out; have o2 := RAL.po_ U5.rs.al HPO.out; have o3 := U5.b3.cell 0; have o4 := U5.b3.cell 1; have o5 := U5.b3.cell 2; clear U5)
       | (go_at_call 167; refine (HU5.out.free 1 (by omega) (by omega) HF.out).mono ?_; rintro e w6 ⟨rfl, U6⟩; have HU6 := hid U6; have p0 := U6.rs.c0; have p1 := U6.rs.al.sp_ HSP.out; have p2 := RAL.po_ U6.rs.al HPO.out; have p3 := U6.b3.cell 0; have p4 := U6.b3.cell 1; have p5 := U6.b3.cell 2; clear U6))
     go_ret2
     exact ⟨rfl, _, HU6.out.rs.mono (by omega)⟩
   · have hN : m.rfN A n = false := by unfold HM.rfN; rw [hR]; simp [h0]
     have hA' : m.rfA A n = fb * 64 := by unfold HM.rfA; rw [hR]; simp only [Option.getD_none]; omega
     have hB' : m.rfB A n = fb := by unfold HM.rfB; rw [hR, ← hfb]; rfl
     have hfle := HFB.out
     have hfb1 : fb ≤ 64 := by omega
     have hfbn : fb ≠ 0 := by omega
     have tb : ((fb : Int) == 0) = false := beq_eq_false_iff_ne.2 (by omega)
     clear h0 hfle hRb
     obtain ⟨pe, hpe⟩ : ∃ v, m.rpE A.sp (fb * 64) fb x y z = v := ⟨_, rfl⟩
     obtain ⟨pv, hpv⟩ : ∃ v, m.rpV A.sp (fb * 64) fb x y z = v := ⟨_, rfl⟩
     obtain ⟨pm, hpm⟩ : ∃ v, m.rpM A.sp (fb * 64) fb x y z = v := ⟨_, rfl⟩
     have HPM := hid hpm
     have re : m.rfE A n x y z = pe := by unfold HM.rfE HM.pgE; rw [hN, hA', hB', ← hpe]; rfl
     have rv : m.rfV A n x y z = pv := by unfold HM.rfV HM.pgV; rw [hN, hA', hB', ← hpv]; rfl
     have rm : m.rfM A n x y z = pm := by unfold HM.rfM HM.pgM; rw [hN, hA', hB', ← hpm]; rfl
     have rc : m.rfC A n x y z = if pe = 0 ∧ po = 2 then { A with c := (fb * 64) + n } else A := by unfold HM.rfC; rw [re, hA', hpo]
     rw [re, rv, rm, rc]
     clear re rv rm rc hN hA' hB' hpm
     by_cases hp : pe = 0
     · have hpv2 : pv = (((fb * 64) : Nat) : Int) := by rw [← hpv]; unfold HM.rpV; rw [hpe, if_pos hp]
       have hatb : (fb * 64) ≤ 10000 := by omega
       have HPV : Hid (m.rpV A.sp (fb * 64) fb x y z = pv) := hpv
       have HPE : Hid (m.rpE A.sp (fb * 64) fb x y z = pe) := hpe
       have tp : (pe == 0) = true := beq_iff_eq.2 hp
       have hpvn : pv = (((fb * 64) : Nat) : Int) := hpv2
       clear hpv2 hpe hpv
       have hpb : 0 ≤ pv ∧ pv ≤ 10000 := by omega
       have HPN := hid hpvn
       have hpb1 := hpb.1
       have hpb2 := hpb.2
       by_cases hp2 : po = 2
       · have t2 : ((po : Int) == 2) = true := beq_iff_eq.2 (by omega)
         rw [if_pos ⟨hp, hp2⟩]
         clear hpvn hpb HFB
         clear u hA hv hn hpo hs ub hR hfb hm64
         go_enter Tryz.func101, Tryz.ntmps101
         go_wp2_with (first
           | (go_at_call 100; refine HU.out.made.mono ?_; rintro e w1 ⟨rfl, U1⟩; have HU1 := hid U1; have i0 := U1.rs.c0; have i1 := U1.rs.al.sp_ HSP.out; have i2 := RAL.po_ U1.rs.al HPO.out; have i3 := U1.b3.cell 0; have i4 := U1.b3.cell 1; have i5 := U1.b3.cell 2; clear U1)
           | (go_at_call 136; refine (HU1.out.valid _ _ _ HV.out).mono ?_; rintro e w2 ⟨rfl, U2⟩; have HU2 := hid U2; have j0 := U2.rs.c0; have j1 := U2.rs.al.sp_ HSP.out; have j2 := RAL.po_ U2.rs.al HPO.out; have j3 := U2.b3.cell 0; have j4 := U2.b3.cell 1; have j5 := U2.b3.cell 2; clear U2)
           | (go_at_call 165; refine (HU2.out.large HV.out HNW.out HLG.out).mono ?_; rintro e w3 ⟨rfl, U3⟩; have HU3 := hid U3; have k0 := U3.rs.c0; have k1 := U3.rs.al.sp_ HSP.out; have k2 := RAL.po_ U3.rs.al HPO.out; have k3 := U3.b3.cell 0; have k4 := U3.b3.cell 1; have k5 := U3.b3.cell 2; clear U3)
           | (go_at_call 153; refine (HU3.out.words HV.out HNW.out).mono ?_; rintro e w4 ⟨rfl, U4⟩; have HU4 := hid U4; have l0 := U4.rs.c0; have l1 := U4.rs.al.sp_ HSP.out; have l2 := RAL.po_ U4.rs.al HPO.out; have l3 := U4.b3.cell 0; have l4 := U4.b3.cell 1; have l5 := U4.b3.cell 2; clear U4)
           | (go_at_call 171; refine (HU4.out.choose HAO.out n hn2 h32 HR.out).mono ?_; rintro e w5 ⟨rfl, U5⟩; have HU5 := hid U5; unfold chV; have o0 := U5.rs.c0; have o1 := U5.rs.al.sp_ HSP.out; have o2 := RAL.po_ U5.rs.al HPO.out; have o3 := U5.b3.cell 0; have o4 := U5.b3.cell 1; have o5 := U5.b3.cell 2; clear U5)
           | (go_at_call 167; refine (HU5.out.free 1 (by omega) (by omega) HF.out).mono ?_; rintro e w6 ⟨rfl, U6⟩; have HU6 := hid U6; have p0 := U6.rs.c0; have p1 := U6.rs.al.sp_ HSP.out; have p2 := RAL.po_ U6.rs.al HPO.out; have p3 := U6.b3.cell 0; have p4 := U6.b3.cell 1; have p5 := U6.b3.cell 2; clear U6)
           | (go_at_call 168; refine (HU6.out.plc (fb * 64) fb (by omega) HV.out (by omega) (by omega) rfl HPV.out HPE.out HPM.out).mono ?_; rintro e w7 ⟨rfl, d7, U7, _⟩; have q2 := RAL.po_ U7.al HPO.out; have y0 := U7.al.frozen 3; have y2 : w7.cell? ⟨g, 3, none⟩ = some (.int .i64 (A.c : Int)) := U7.al.cell 3; have HU7 := hid U7; clear U7))
         go_ret2
         have US := HU7.out.set1 ((fb * 64) + n)
         rw [show (((fb * 64) + n : Nat) : Int) = pv + (n : Int) by have := HPN.out; omega] at US
         exact ⟨by first | rfl | (rw [hp]; done) | (rw [hp]; rfl), _, US⟩
       · have t2 : ((po : Int) == 2) = false := beq_eq_false_iff_ne.2 (by omega)
         rw [if_neg (fun h => hp2 h.2)]
         clear hpvn hpb HFB
         clear u hA hv hn hpo hs ub hR hfb hm64
         go_enter Tryz.func101, Tryz.ntmps101
         go_wp2_with (first
           | (go_at_call 100; refine HU.out.made.mono ?_; rintro e w1 ⟨rfl, U1⟩; have HU1 := hid U1; have i0 := U1.rs.c0; have i1 := U1.rs.al.sp_ HSP.out; have i2 := RAL.po_ U1.rs.al HPO.out; have i3 := U1.b3.cell 0; have i4 := U1.b3.cell 1; have i5 := U1.b3.cell 2; clear U1)
           | (go_at_call 136; refine (HU1.out.valid _ _ _ HV.out).mono ?_; rintro e w2 ⟨rfl, U2⟩; have HU2 := hid U2; have j0 := U2.rs.c0; have j1 := U2.rs.al.sp_ HSP.out; have j2 := RAL.po_ U2.rs.al HPO.out; have j3 := U2.b3.cell 0; have j4 := U2.b3.cell 1; have j5 := U2.b3.cell 2; clear U2)
           | (go_at_call 165; refine (HU2.out.large HV.out HNW.out HLG.out).mono ?_; rintro e w3 ⟨rfl, U3⟩; have HU3 := hid U3; have k0 := U3.rs.c0; have k1 := U3.rs.al.sp_ HSP.out; have k2 := RAL.po_ U3.rs.al HPO.out; have k3 := U3.b3.cell 0; have k4 := U3.b3.cell 1; have k5 := U3.b3.cell 2; clear U3)
           | (go_at_call 153; refine (HU3.out.words HV.out HNW.out).mono ?_; rintro e w4 ⟨rfl, U4⟩; have HU4 := hid U4; have l0 := U4.rs.c0; have l1 := U4.rs.al.sp_ HSP.out; have l2 := RAL.po_ U4.rs.al HPO.out; have l3 := U4.b3.cell 0; have l4 := U4.b3.cell 1; have l5 := U4.b3.cell 2; clear U4)
           | (go_at_call 171; refine (HU4.out.choose HAO.out n hn2 h32 HR.out).mono ?_; rintro e w5 ⟨rfl, U5⟩; have HU5 := hid U5; unfold chV; have o0 := U5.rs.c0; have o1 := U5.rs.al.sp_ HSP.out; have o2 := RAL.po_ U5.rs.al HPO.out; have o3 := U5.b3.cell 0; have o4 := U5.b3.cell 1; have o5 := U5.b3.cell 2; clear U5)
           | (go_at_call 167; refine (HU5.out.free 1 (by omega) (by omega) HF.out).mono ?_; rintro e w6 ⟨rfl, U6⟩; have HU6 := hid U6; have p0 := U6.rs.c0; have p1 := U6.rs.al.sp_ HSP.out; have p2 := RAL.po_ U6.rs.al HPO.out; have p3 := U6.b3.cell 0; have p4 := U6.b3.cell 1; have p5 := U6.b3.cell 2; clear U6)
           | (go_at_call 168; refine (HU6.out.plc (fb * 64) fb (by omega) HV.out (by omega) (by omega) rfl HPV.out HPE.out HPM.out).mono ?_; rintro e w7 ⟨rfl, d7, U7, _⟩; have q2 := RAL.po_ U7.al HPO.out; have y0 := U7.al.frozen 3; have y2 : w7.cell? ⟨g, 3, none⟩ = some (.int .i64 (A.c : Int)) := U7.al.cell 3; have HU7 := hid U7; clear U7))
         go_ret2
         exact ⟨by first | rfl | (rw [hp]; done) | (rw [hp]; rfl), _, HU7.out⟩
     · have HPV : Hid (m.rpV A.sp (fb * 64) fb x y z = pv) := hpv
       have HPE : Hid (m.rpE A.sp (fb * 64) fb x y z = pe) := hpe
       have tp : (pe == 0) = false := beq_eq_false_iff_ne.2 hp
       rw [if_neg (fun h => hp h.1)]
       clear hpe hpv HFB
       clear u hA hv hn hpo hs ub hR hfb hm64
       go_enter Tryz.func101, Tryz.ntmps101
       go_wp2_with (first
         | (go_at_call 100; refine HU.out.made.mono ?_; rintro e w1 ⟨rfl, U1⟩; have HU1 := hid U1; have i0 := U1.rs.c0; have i1 := U1.rs.al.sp_ HSP.out; have i2 := RAL.po_ U1.rs.al HPO.out; have i3 := U1.b3.cell 0; have i4 := U1.b3.cell 1; have i5 := U1.b3.cell 2; clear U1)
         | (go_at_call 136; refine (HU1.out.valid _ _ _ HV.out).mono ?_; rintro e w2 ⟨rfl, U2⟩; have HU2 := hid U2; have j0 := U2.rs.c0; have j1 := U2.rs.al.sp_ HSP.out; have j2 := RAL.po_ U2.rs.al HPO.out; have j3 := U2.b3.cell 0; have j4 := U2.b3.cell 1; have j5 := U2.b3.cell 2; clear U2)
         | (go_at_call 165; refine (HU2.out.large HV.out HNW.out HLG.out).mono ?_; rintro e w3 ⟨rfl, U3⟩; have HU3 := hid U3; have k0 := U3.rs.c0; have k1 := U3.rs.al.sp_ HSP.out; have k2 := RAL.po_ U3.rs.al HPO.out; have k3 := U3.b3.cell 0; have k4 := U3.b3.cell 1; have k5 := U3.b3.cell 2; clear U3)
         | (go_at_call 153; refine (HU3.out.words HV.out HNW.out).mono ?_; rintro e w4 ⟨rfl, U4⟩; have HU4 := hid U4; have l0 := U4.rs.c0; have l1 := U4.rs.al.sp_ HSP.out; have l2 := RAL.po_ U4.rs.al HPO.out; have l3 := U4.b3.cell 0; have l4 := U4.b3.cell 1; have l5 := U4.b3.cell 2; clear U4)
         | (go_at_call 171; refine (HU4.out.choose HAO.out n hn2 h32 HR.out).mono ?_; rintro e w5 ⟨rfl, U5⟩; have HU5 := hid U5; unfold chV; have o0 := U5.rs.c0; have o1 := U5.rs.al.sp_ HSP.out; have o2 := RAL.po_ U5.rs.al HPO.out; have o3 := U5.b3.cell 0; have o4 := U5.b3.cell 1; have o5 := U5.b3.cell 2; clear U5)
         | (go_at_call 167; refine (HU5.out.free 1 (by omega) (by omega) HF.out).mono ?_; rintro e w6 ⟨rfl, U6⟩; have HU6 := hid U6; have p0 := U6.rs.c0; have p1 := U6.rs.al.sp_ HSP.out; have p2 := RAL.po_ U6.rs.al HPO.out; have p3 := U6.b3.cell 0; have p4 := U6.b3.cell 1; have p5 := U6.b3.cell 2; clear U6)
         | (go_at_call 168; refine (HU6.out.plc (fb * 64) fb (by omega) HV.out (by omega) (by omega) rfl HPV.out HPE.out HPM.out).mono ?_; rintro e w7 ⟨rfl, d7, U7, _⟩; have q2 := RAL.po_ U7.al HPO.out; have y0 := U7.al.frozen 3; have y2 : w7.cell? ⟨g, 3, none⟩ = some (.int .i64 (A.c : Int)) := U7.al.cell 3; have HU7 := hid U7; clear U7))
       go_ret2
       exact ⟨rfl, _, HU7.out⟩
 · have hN : m.rfN A n = false := by unfold HM.rfN; rw [hR]; rfl
   have hA' : m.rfA A n = a := by unfold HM.rfA; rw [hR]; rfl
   have hB' : m.rfB A n = 0 := by unfold HM.rfB; rw [hR]; rfl
   have hab : a ≤ 8192 := by rcases hRb a rfl with h | h <;> omega
   clear hRb
   obtain ⟨pe, hpe⟩ : ∃ v, m.rpE A.sp a 0 x y z = v := ⟨_, rfl⟩
   obtain ⟨pv, hpv⟩ : ∃ v, m.rpV A.sp a 0 x y z = v := ⟨_, rfl⟩
   obtain ⟨pm, hpm⟩ : ∃ v, m.rpM A.sp a 0 x y z = v := ⟨_, rfl⟩
   have HPM := hid hpm
   have re : m.rfE A n x y z = pe := by unfold HM.rfE HM.pgE; rw [hN, hA', hB', ← hpe]; rfl
   have rv : m.rfV A n x y z = pv := by unfold HM.rfV HM.pgV; rw [hN, hA', hB', ← hpv]; rfl
   have rm : m.rfM A n x y z = pm := by unfold HM.rfM HM.pgM; rw [hN, hA', hB', ← hpm]; rfl
   have rc : m.rfC A n x y z = if pe = 0 ∧ po = 2 then { A with c := a + n } else A := by unfold HM.rfC; rw [re, hA', hpo]
   rw [re, rv, rm, rc]
   clear re rv rm rc hN hA' hB' hpm
   by_cases hp : pe = 0
   · have hpv2 : pv = ((a : Nat) : Int) := by rw [← hpv]; unfold HM.rpV; rw [hpe, if_pos hp]
     have hatb : a ≤ 10000 := by omega
     have HPV : Hid (m.rpV A.sp a 0 x y z = pv) := hpv
     have HPE : Hid (m.rpE A.sp a 0 x y z = pe) := hpe
     have tp : (pe == 0) = true := beq_iff_eq.2 hp
     have hpvn : pv = ((a : Nat) : Int) := hpv2
     clear hpv2 hpe hpv
     have hpb : 0 ≤ pv ∧ pv ≤ 10000 := by omega
     have HPN := hid hpvn
     have hpb1 := hpb.1
     have hpb2 := hpb.2
     by_cases hp2 : po = 2
     · have t2 : ((po : Int) == 2) = true := beq_iff_eq.2 (by omega)
       rw [if_pos ⟨hp, hp2⟩]
       clear hpvn hpb HFB
       clear u hA hv hn hpo hs ub hR hfb hm64
       go_enter Tryz.func101, Tryz.ntmps101
       go_wp2_with (first
         | (go_at_call 100; refine HU.out.made.mono ?_; rintro e w1 ⟨rfl, U1⟩; have HU1 := hid U1; have i0 := U1.rs.c0; have i1 := U1.rs.al.sp_ HSP.out; have i2 := RAL.po_ U1.rs.al HPO.out; have i3 := U1.b3.cell 0; have i4 := U1.b3.cell 1; have i5 := U1.b3.cell 2; clear U1)
         | (go_at_call 136; refine (HU1.out.valid _ _ _ HV.out).mono ?_; rintro e w2 ⟨rfl, U2⟩; have HU2 := hid U2; have j0 := U2.rs.c0; have j1 := U2.rs.al.sp_ HSP.out; have j2 := RAL.po_ U2.rs.al HPO.out; have j3 := U2.b3.cell 0; have j4 := U2.b3.cell 1; have j5 := U2.b3.cell 2; clear U2)
         | (go_at_call 165; refine (HU2.out.large HV.out HNW.out HLG.out).mono ?_; rintro e w3 ⟨rfl, U3⟩; have HU3 := hid U3; have k0 := U3.rs.c0; have k1 := U3.rs.al.sp_ HSP.out; have k2 := RAL.po_ U3.rs.al HPO.out; have k3 := U3.b3.cell 0; have k4 := U3.b3.cell 1; have k5 := U3.b3.cell 2; clear U3)
         | (go_at_call 153; refine (HU3.out.words HV.out HNW.out).mono ?_; rintro e w4 ⟨rfl, U4⟩; have HU4 := hid U4; have l0 := U4.rs.c0; have l1 := U4.rs.al.sp_ HSP.out; have l2 := RAL.po_ U4.rs.al HPO.out; have l3 := U4.b3.cell 0; have l4 := U4.b3.cell 1; have l5 := U4.b3.cell 2; clear U4)
         | (go_at_call 171; refine (HU4.out.choose HAO.out n hn2 h32 HR.out).mono ?_; rintro e w5 ⟨rfl, U5⟩; have HU5 := hid U5; unfold chV; have o0 := U5.rs.c0; have o1 := U5.rs.al.sp_ HSP.out; have o2 := RAL.po_ U5.rs.al HPO.out; have o3 := U5.b3.cell 0; have o4 := U5.b3.cell 1; have o5 := U5.b3.cell 2; clear U5)
         | (go_at_call 168; refine (HU5.out.plc a 0 (by omega) HV.out (by omega) rfl rfl HPV.out HPE.out HPM.out).mono ?_; rintro e w7 ⟨rfl, d7, U7, _⟩; have q2 := RAL.po_ U7.al HPO.out; have y0 := U7.al.frozen 3; have y2 : w7.cell? ⟨g, 3, none⟩ = some (.int .i64 (A.c : Int)) := U7.al.cell 3; have HU7 := hid U7; clear U7))
       go_ret2
       have US := HU7.out.set1 (a + n)
       rw [show ((a + n : Nat) : Int) = pv + (n : Int) by have := HPN.out; omega] at US
       exact ⟨by first | rfl | (rw [hp]; done) | (rw [hp]; rfl), _, US⟩
     · have t2 : ((po : Int) == 2) = false := beq_eq_false_iff_ne.2 (by omega)
       rw [if_neg (fun h => hp2 h.2)]
       clear hpvn hpb HFB
       clear u hA hv hn hpo hs ub hR hfb hm64
       go_enter Tryz.func101, Tryz.ntmps101
       go_wp2_with (first
         | (go_at_call 100; refine HU.out.made.mono ?_; rintro e w1 ⟨rfl, U1⟩; have HU1 := hid U1; have i0 := U1.rs.c0; have i1 := U1.rs.al.sp_ HSP.out; have i2 := RAL.po_ U1.rs.al HPO.out; have i3 := U1.b3.cell 0; have i4 := U1.b3.cell 1; have i5 := U1.b3.cell 2; clear U1)
         | (go_at_call 136; refine (HU1.out.valid _ _ _ HV.out).mono ?_; rintro e w2 ⟨rfl, U2⟩; have HU2 := hid U2; have j0 := U2.rs.c0; have j1 := U2.rs.al.sp_ HSP.out; have j2 := RAL.po_ U2.rs.al HPO.out; have j3 := U2.b3.cell 0; have j4 := U2.b3.cell 1; have j5 := U2.b3.cell 2; clear U2)
         | (go_at_call 165; refine (HU2.out.large HV.out HNW.out HLG.out).mono ?_; rintro e w3 ⟨rfl, U3⟩; have HU3 := hid U3; have k0 := U3.rs.c0; have k1 := U3.rs.al.sp_ HSP.out; have k2 := RAL.po_ U3.rs.al HPO.out; have k3 := U3.b3.cell 0; have k4 := U3.b3.cell 1; have k5 := U3.b3.cell 2; clear U3)
         | (go_at_call 153; refine (HU3.out.words HV.out HNW.out).mono ?_; rintro e w4 ⟨rfl, U4⟩; have HU4 := hid U4; have l0 := U4.rs.c0; have l1 := U4.rs.al.sp_ HSP.out; have l2 := RAL.po_ U4.rs.al HPO.out; have l3 := U4.b3.cell 0; have l4 := U4.b3.cell 1; have l5 := U4.b3.cell 2; clear U4)
         | (go_at_call 171; refine (HU4.out.choose HAO.out n hn2 h32 HR.out).mono ?_; rintro e w5 ⟨rfl, U5⟩; have HU5 := hid U5; unfold chV; have o0 := U5.rs.c0; have o1 := U5.rs.al.sp_ HSP.out; have o2 := RAL.po_ U5.rs.al HPO.out; have o3 := U5.b3.cell 0; have o4 := U5.b3.cell 1; have o5 := U5.b3.cell 2; clear U5)
         | (go_at_call 168; refine (HU5.out.plc a 0 (by omega) HV.out (by omega) rfl rfl HPV.out HPE.out HPM.out).mono ?_; rintro e w7 ⟨rfl, d7, U7, _⟩; have q2 := RAL.po_ U7.al HPO.out; have y0 := U7.al.frozen 3; have y2 : w7.cell? ⟨g, 3, none⟩ = some (.int .i64 (A.c : Int)) := U7.al.cell 3; have HU7 := hid U7; clear U7))
       go_ret2
       exact ⟨by first | rfl | (rw [hp]; done) | (rw [hp]; rfl), _, HU7.out⟩
   · have HPV : Hid (m.rpV A.sp a 0 x y z = pv) := hpv
     have HPE : Hid (m.rpE A.sp a 0 x y z = pe) := hpe
     have tp : (pe == 0) = false := beq_eq_false_iff_ne.2 hp
     rw [if_neg (fun h => hp h.1)]
     clear hpe hpv HFB
     clear u hA hv hn hpo hs ub hR hfb hm64
     go_enter Tryz.func101, Tryz.ntmps101
     go_wp2_with (first
       | (go_at_call 100; refine HU.out.made.mono ?_; rintro e w1 ⟨rfl, U1⟩; have HU1 := hid U1; have i0 := U1.rs.c0; have i1 := U1.rs.al.sp_ HSP.out; have i2 := RAL.po_ U1.rs.al HPO.out; have i3 := U1.b3.cell 0; have i4 := U1.b3.cell 1; have i5 := U1.b3.cell 2; clear U1)
       | (go_at_call 136; refine (HU1.out.valid _ _ _ HV.out).mono ?_; rintro e w2 ⟨rfl, U2⟩; have HU2 := hid U2; have j0 := U2.rs.c0; have j1 := U2.rs.al.sp_ HSP.out; have j2 := RAL.po_ U2.rs.al HPO.out; have j3 := U2.b3.cell 0; have j4 := U2.b3.cell 1; have j5 := U2.b3.cell 2; clear U2)
       | (go_at_call 165; refine (HU2.out.large HV.out HNW.out HLG.out).mono ?_; rintro e w3 ⟨rfl, U3⟩; have HU3 := hid U3; have k0 := U3.rs.c0; have k1 := U3.rs.al.sp_ HSP.out; have k2 := RAL.po_ U3.rs.al HPO.out; have k3 := U3.b3.cell 0; have k4 := U3.b3.cell 1; have k5 := U3.b3.cell 2; clear U3)
       | (go_at_call 153; refine (HU3.out.words HV.out HNW.out).mono ?_; rintro e w4 ⟨rfl, U4⟩; have HU4 := hid U4; have l0 := U4.rs.c0; have l1 := U4.rs.al.sp_ HSP.out; have l2 := RAL.po_ U4.rs.al HPO.out; have l3 := U4.b3.cell 0; have l4 := U4.b3.cell 1; have l5 := U4.b3.cell 2; clear U4)
       | (go_at_call 171; refine (HU4.out.choose HAO.out n hn2 h32 HR.out).mono ?_; rintro e w5 ⟨rfl, U5⟩; have HU5 := hid U5; unfold chV; have o0 := U5.rs.c0; have o1 := U5.rs.al.sp_ HSP.out; have o2 := RAL.po_ U5.rs.al HPO.out; have o3 := U5.b3.cell 0; have o4 := U5.b3.cell 1; have o5 := U5.b3.cell 2; clear U5)
       | (go_at_call 168; refine (HU5.out.plc a 0 (by omega) HV.out (by omega) rfl rfl HPV.out HPE.out HPM.out).mono ?_; rintro e w7 ⟨rfl, d7, U7, _⟩; have q2 := RAL.po_ U7.al HPO.out; have y0 := U7.al.frozen 3; have y2 : w7.cell? ⟨g, 3, none⟩ = some (.int .i64 (A.c : Int)) := U7.al.cell 3; have HU7 := hid U7; clear U7))
     go_ret2
     exact ⟨rfl, _, HU7.out⟩
theorem r_alloc (u : RS w W d0 d q m g A) (hA : A.Ok) (x y z : Int) (hq : q ≤ 800000000) :
   Calls Tryz.prog 101 #[.pointer (some ⟨g, 0, none⟩), .agg #[.int .i64 x, .int .i64 y, .int .i64 z]] W fun e w' => e = .returned (.tuple #[.int .i64 (m.ra A x y z).1.1, .int .i64 (m.ra A x y z).1.2]) ∧ ∃ d', RS w w' d0 d' (q + 1) (m.ra A x y z).2.1 g (m.ra A x y z).2.2 := by
 rcases hv : vldB x y z
 · rw [show m.ra A x y z = ((0, 2), (m, A)) by unfold HM.ra; rw [hv]; rfl]
   exact r_alloc_bad u hv
 · obtain ⟨a, b, c, rfl, rfl, rfl, _⟩ := vldB_nat hv
   by_cases h : 32 < wdN a b
   · rw [show m.ra A a b c = m.raL A (wdN a b) a b c by unfold HM.ra; rw [if_pos hv, Int.toNat_natCast, Int.toNat_natCast, if_pos h]]
     exact r_alloc_large u hA hv hq rfl h
   · rw [show m.ra A a b c = m.raS A (wdN a b) a b c by unfold HM.ra; rw [if_pos hv, Int.toNat_natCast, Int.toNat_natCast, if_neg h]]
     unfold HM.raS
     split
     · rename_i hp
       exact r_alloc_bump u hA hv hq rfl (by omega) hp
     · split
       · rename_i hp
         exact r_alloc_lines u hA hv hq rfl (by omega) hp
       · exact r_alloc_fit u hA hv hq rfl (by omega) (by have := hA.po; omega)
end
theorem all_at {m : HM} {i : Nat} (hi : i < m.allL.length) : ∃ (a : Nat) (o : Ob), m.allL.getD i 0 = (a : Int) ∧ m.ob a = some o := by
 have hm : m.allL.getD i 0 ∈ m.allL := by
   rw [List.getD_eq_getElem?_getD, List.getElem?_eq_getElem hi]
   exact List.getElem_mem hi
 obtain ⟨j, h1, h2, h3⟩ := (fpL_mem _ _ _ _).1 hm
 obtain ⟨o, ho⟩ := Option.isSome_iff_exists.1 h3
 exact ⟨_, o, h2, ho⟩
theorem all_le {m : HM} (I : m.Inv) : m.allL.length ≤ 2048 := by
 have := fpL_le m 0 (32 * m.bl.length)
 have := I.len64
 unfold HM.allL
 omega
def HM.oneV (m : HM) (n : Int) : Int := if m.allL.length = 0 ∨ n < 0 then 0 else m.allL.getD (n.toNat % m.allL.length) 0
theorem oneV_bd {m : HM} (I : m.Inv) (n : Int) : 0 ≤ m.oneV n ∧ m.oneV n ≤ 4096 := by
 unfold HM.oneV
 split
 · omega
 · rename_i h
   obtain ⟨a, o, h1, h2⟩ := all_at (m := m) (i := n.toNat % m.allL.length) (Nat.mod_lt _ (by omega))
   have h3 := I.hi h2
   have h4 := I.n_bd
   rw [h1]
   omega
section
variable {w W V : World} {b : HB} {d d2 : DB} {m m' m2 : HM} {q p q2 p2 g g' gb : Nat} {A A' A2 : AS} {cs : Array Value}
theorem rpM_tl (t : m.Tl) (s a blk : Nat) (x y z : Int) : (m.rpM s a blk x y z).Tl := by
 have t1 : (m.rp1 s blk).Tl := by
   unfold HM.rp1
   split
   · exact Tl.claim t _ _ _ (.inr ⟨rfl, rfl⟩)
   · exact t
 unfold HM.rpM
 split
 · exact t1
 · exact Tl.place t1 _ _ _ _
theorem pgM_tl (t : m.Tl) (c : Bool) (s a blk : Nat) (x y z : Int) : (m.pgM c s a blk x y z).Tl := by
 unfold HM.pgM
 split
 · exact t
 · exact rpM_tl t _ _ _ _ _ _
theorem rlM_tl (t : m.Tl) (A : AS) (n : Nat) (x y z : Int) : (m.rlM A n x y z).Tl := by
 unfold HM.rlM HM.ruM
 split
 · exact pgM_tl t _ _ _ _ _ _ _
 · split
   · exact pgM_tl t _ _ _ _ _ _ _
   · split
     · exact rpM_tl t _ _ _ _ _ _
     · exact pgM_tl t _ _ _ _ _ _ _
theorem ra_tl (t : m.Tl) (A : AS) (x y z : Int) : (m.ra A x y z).2.1.Tl := by
 unfold HM.ra
 split
 · split
   · unfold HM.raL
     split
     · exact t
     · exact rpM_tl (Tl.claim t _ _ _ (.inl rfl)) _ _ _ _ _ _
   · unfold HM.raS
     split
     · exact pgM_tl t _ _ _ _ _ _ _
     · split
       · exact rlM_tl t _ _ _ _ _
       · exact pgM_tl t _ _ _ _ _ _ _
 · exact t
theorem ruC_bd (I : m.Inv) {s c l n : Nat} (hc : c ≤ 8192) (hl : l ≤ 8192) (hn : n ≤ 32) (x y z : Int) : (m.ruC s c l n x y z).1 ≤ 8192 ∧ (m.ruC s c l n x y z).2 ≤ 8192 := by
 have hf := freeB_le m 1 I
 unfold HM.ruC HM.ruA HM.ruL
 split
 · simp only
   split <;> omega
 · exact ⟨hc, hl⟩
theorem holsL_bd (I : m.Inv) {s : Nat} {a : Nat × Nat} (h : a ∈ holsL m s m.bl.length) : a.1 ≤ 4096 ∧ a.2 ≤ 4160 := by
 unfold holsL at h
 obtain ⟨k, hk, ha⟩ := List.mem_flatMap.1 h
 obtain ⟨hk1, _⟩ := mem_blkS.1 hk
 obtain ⟨y, hy, rfl⟩ := List.mem_map.1 ha
 have h1 := holN_bd (m.lnL k) (m.lnL k).length y hy
 have h2 : (m.lnL k).length = 8 := by simp [HM.lnL]
 have h3 := I.len64
 show k * 64 + y.1 * 8 ≤ 4096 ∧ k * 64 + y.1 * 8 + y.2 * 8 ≤ 4160
 omega
theorem AS.Ok.cl {A : AS} (h : A.Ok) {c l : Nat} (hc : c ≤ 8192) (hl : l ≤ 8192) : ({ A with c := c, l := l } : AS).Ok := ⟨h.sp, h.po, hc, hl, h.oc, h.ol⟩
theorem AS.Ok.ov {A : AS} (h : A.Ok) {c l : Nat} (hc : c ≤ 8192) (hl : l ≤ 8192) : ({ A with oc := c, ol := l } : AS).Ok := ⟨h.sp, h.po, h.c, h.l, hc, hl⟩
theorem ra_ok (I : m.Inv) (hA : A.Ok) (x y z : Int) : (m.ra A x y z).2.2.Ok := by
 have hf := freeB_le m 1 I
 unfold HM.ra
 split
 · split
   · unfold HM.raL
     split <;> exact hA
   · rename_i h32
     unfold HM.raS
     split
     · have h := ruC_bd I (s := A.sp) hA.c hA.l (show wdN x.toNat y.toNat ≤ 32 by omega) x y z
       exact hA.cl h.1 h.2
     · split
       · simp only
         unfold HM.rlA
         have h := ruC_bd I (s := A.sp) hA.c hA.l (show wdN x.toNat y.toNat ≤ 32 by omega) x y z
         split
         · exact hA.cl h.1 h.2
         · split
           · have h := ruC_bd I (s := A.sp) hA.oc hA.ol (show wdN x.toNat y.toNat ≤ 32 by omega) x y z
             exact hA.ov h.1 h.2
           · split
             · rename_i a ha
               have hb := holsL_bd I (List.mem_of_find?_eq_some ha)
               split
               · exact hA.cl (by omega) (by omega)
               · exact hA
             · exact hA.cl h.1 h.2
       · simp only
         unfold HM.rfC
         split
         · refine hA.cl ?_ hA.l
           unfold HM.rfA
           rcases hR : m.rcO A (wdN x.toNat y.toNat) with _ | a
           · simp only [Option.getD_none]; omega
           · have := rcO_bd I A hA.c hR
             simp only [Option.getD_some]
             omega
         · exact hA
 · exact hA
structure PQ (w W : World) (b : HB) (q : Nat) (m : HM) (g : Nat) (A : AS) (d : DB) (p : Nat) (m' : HM) (g' : Nat) (A' : AS) : Prop where
 v : LV w W b q m g A
 t : DR W d p m'
 r : RAL W g' d A'
 ok : A'.Ok
 tl : m'.Tl
 nd : ∀ x ∈ d.all, w.heap.size ≤ x ∧ x ∉ b.all ∧ x ≠ g
 ng : w.heap.size ≤ g' ∧ g' ∉ d.all ∧ g' ∉ b.all ∧ g' ≠ g
theorem LV.step' (u : LV w W b q m g A) (K : Kp [] W V) : LV w V b q m g A := ⟨u.sh.k0 K, u.kp.chain K, u.hb, u.al.kp K (by simp), u.hg, u.gb, u.ok⟩
theorem PQ.step (P : PQ w W b q m g A d p m' g' A') (K : Kp [] W V) : PQ w V b q m g A d p m' g' A' := ⟨P.v.step' K, P.t.kp0 K, P.r.kp K (by simp), P.ok, P.tl, P.nd, P.ng⟩
theorem PQ.prog (P : PQ w W b q m g A d p m' g' A') (v2 : LV w V b q2 m2 g A2) (K : Kp (g :: b.all) W V) : PQ w V b q2 m2 g A2 d p m' g' A' :=
 ⟨v2, P.t.kp K (fun x hx hm => by rcases List.mem_cons.1 hm with h | h; exact (P.nd x hx).2.2 h; exact (P.nd x hx).2.1 h), P.r.kp K (fun hm => by rcases List.mem_cons.1 hm with h | h; exact P.ng.2.2.2 h; exact P.ng.2.2.1 h), P.ok, P.tl, P.nd, P.ng⟩
theorem PQ.rs (P : PQ w W b q m g A d p m' g' A') : RS W W d d p m' g' A' := RS.start P.t P.r P.ng.2.1 (Blk.lt P.r)
theorem PQ.docu (P : PQ w W b q m g A d p m' g' A') (R : RS W V d d2 p2 m2 g' A2) (ok : A2.Ok) (tl : m2.Tl) : PQ w V b q m g A d2 p2 m2 g' A2 := by
 have hs := P.v.kp.size
 have hgl := Blk.lt P.v.al
 refine ⟨⟨P.v.sh.kp R.kp (fun x hx hm => ?_), P.v.kp.trans R.kp (U := []) (by simp) (fun z hz => .inr ?_), P.v.hb, P.v.al.kp R.kp (fun hm => ?_), P.v.hg, P.v.gb, P.v.ok⟩, R.dr, R.al, ok, tl, fun x hx => ?_, ⟨P.ng.1, R.gd, P.ng.2.2.1, P.ng.2.2.2⟩⟩
 · rcases List.mem_cons.1 hm with h | h
   · exact P.ng.2.2.1 (h ▸ hx)
   · exact (P.nd x h).2.1 hx
 · rcases List.mem_cons.1 hz with h | h
   · rw [h]; exact P.ng.1
   · exact (P.nd z h).1
 · rcases List.mem_cons.1 hm with h | h
   · exact P.ng.2.2.2 h.symm
   · exact (P.nd g h).2.2 rfl
 · rcases R.sub x hx with h | h
   · exact P.nd x h
   · refine ⟨by omega, fun hm => ?_, fun he => ?_⟩
     · have := P.v.sh.lt x hm; omega
     · omega
theorem PQ.heapP (P : PQ w W b q m g A d p m' g' A') (S : SH V b q2 m2) (K : Kp b.all W V) : PQ w V b q2 m2 g A d p m' g' A' :=
 P.prog ⟨S, P.v.kp.trans K (U := []) (by simp) (fun z hz => .inr (P.v.hb z hz)), P.v.hb, P.v.al.kp K P.v.gb, P.v.hg, P.v.gb, P.v.ok⟩ (K.mono (fun x hx => .inl (List.mem_cons_of_mem _ hx)))
structure PX (w W : World) (b : HB) (q : Nat) (m : HM) (g : Nat) (A : AS) (d : DB) (p : Nat) (m' : HM) (g' : Nat) (A' : AS) (gb : Nat) (cs : Array Value) : Prop where
 pq : PQ w W b q m g A d p m' g' A'
 bx : Blk W gb 51 cs
 nb : gb ∉ g :: b.all
 nd : gb ∉ g' :: d.all
theorem PX.start (P : PQ w W b q m g A d p m' g' A') (cs : Array Value) : PX w (W.alloc (.cells cs 51)) b q m g A d p m' g' A' W.heap.size cs :=
 ⟨P.step (Kp.new _ _), Blk.new _ _ _, fun hm => by
   rcases List.mem_cons.1 hm with h | h
   · have := Blk.lt P.v.al; omega
   · have := P.v.sh.lt _ h; omega, fun hm => by
   rcases List.mem_cons.1 hm with h | h
   · have := Blk.lt P.r; omega
   · have := P.t.lt _ h; omega⟩
theorem PX.step (u : PX w W b q m g A d p m' g' A' gb cs) (K : Kp [] W V) : PX w V b q m g A d p m' g' A' gb cs := ⟨u.pq.step K, u.bx.kp K (by simp), u.nb, u.nd⟩
theorem PX.prog (u : PX w W b q m g A d p m' g' A' gb cs) (v2 : LV w V b q2 m2 g A2) (K : Kp (g :: b.all) W V) : PX w V b q2 m2 g A2 d p m' g' A' gb cs := ⟨u.pq.prog v2 K, u.bx.kp K u.nb, u.nb, u.nd⟩
theorem PX.heapP (u : PX w W b q m g A d p m' g' A' gb cs) (S : SH V b q2 m2) (K : Kp b.all W V) : PX w V b q2 m2 g A d p m' g' A' gb cs := ⟨u.pq.heapP S K, u.bx.kp K (fun h => u.nb (List.mem_cons_of_mem _ h)), u.nb, u.nd⟩
theorem PX.docu (u : PX w W b q m g A d p m' g' A' gb cs) (R : RS W V d d2 p2 m2 g' A2) (ok : A2.Ok) (tl : m2.Tl) : PX w V b q m g A d2 p2 m2 g' A2 gb cs := by
 have hl := Blk.lt u.bx
 refine ⟨u.pq.docu R ok tl, u.bx.kp R.kp u.nd, u.nb, fun hm => ?_⟩
 rcases List.mem_cons.1 hm with h | h
 · exact u.nd (h ▸ List.mem_cons_self ..)
 · rcases R.sub _ h with h | h
   · exact u.nd (List.mem_cons_of_mem _ h)
   · omega
theorem PX.heapD (u : PX w W b q m g A d p m' g' A' gb cs) (D : DChg W d p2 m2 V) (tl : m2.Tl) : ∃ d2, d2.g = d.g ∧ PX w V b q m g A d2 p2 m2 g' A' gb cs := by
 obtain ⟨d2, R⟩ := u.pq.rs.heap D
 exact ⟨d2, R.gg, u.docu R u.pq.ok tl⟩
theorem PX.allocP (u : PX w W b q m g A d p m' g' A' gb cs) (x y z : Int) (hq : q ≤ 900000000) :
   Calls Tryz.prog 32 #[.pointer (some ⟨g, 0, none⟩), .agg #[.int .i64 x, .int .i64 y, .int .i64 z]] W fun e w' => e = .returned (.tuple #[.int .i64 (m.alV A x y z : Int), .int .i64 (m.alE A x y z)]) ∧ PX w w' b (q + 1) (m.alM A x y z) g (m.alA A x y z) d p m' g' A' gb cs := by
 have v := u.pq.v
 refine (a_alloc v.sh v.al v.ok v.gb x y z hq).mono ?_
 rintro e w' ⟨rfl, h1, h2, h3⟩
 refine ⟨rfl, u.prog ⟨h1, v.kp.trans h3 (U := []) (by simp) (fun z hz => .inr ?_), v.hb, h2, v.hg, v.gb, alA_ok v.sh.inv v.ok x y z⟩ h3⟩
 rcases List.mem_cons.1 hz with rfl | h
 · exact v.hg
 · exact v.hb z h
theorem PX.allocD (u : PX w W b q m g A d p m' g' A' gb cs) (x y z : Int) (hp : p ≤ 800000000) :
   Calls Tryz.prog 101 #[.pointer (some ⟨g', 0, none⟩), .agg #[.int .i64 x, .int .i64 y, .int .i64 z]] W fun e w' => e = .returned (.tuple #[.int .i64 (m'.ra A' x y z).1.1, .int .i64 (m'.ra A' x y z).1.2]) ∧ ∃ d2, d2.g = d.g ∧ PX w w' b q m g A d2 (p + 1) (m'.ra A' x y z).2.1 g' (m'.ra A' x y z).2.2 gb cs := by
 refine (r_alloc u.pq.rs u.pq.ok x y z hp).mono ?_
 rintro e w' ⟨rfl, d2, R⟩
 exact ⟨rfl, d2, R.gg, u.docu R (ra_ok u.pq.t.inv u.pq.ok x y z) (ra_tl u.pq.tl _ _ _ _)⟩
theorem PX.resetP (u : PX w W b q m g A d p m' g' A' gb cs) :
   Calls Tryz.prog 103 #[.pointer (some ⟨g, 0, none⟩)] W fun e w' => e = .returned (.tuple #[]) ∧ PX w w' b q m g A.reset d p m' g' A' gb cs := by
 have v := u.pq.v
 refine (a_reset v.al).mono ?_
 rintro e w' ⟨rfl, h1, h2⟩
 refine ⟨rfl, u.prog ⟨v.sh.kp h2 (fun x hx hm => ?_), v.kp.trans h2 (U := []) (by simp) (fun z hz => .inr ?_), v.hb, h1, v.hg, v.gb, ⟨v.ok.sp, v.ok.po, Nat.zero_le _, Nat.zero_le _, Nat.zero_le _, Nat.zero_le _⟩⟩ (h2.mono (by simp))⟩
 · rw [List.mem_singleton] at hm; exact v.gb (hm ▸ hx)
 · rw [List.mem_singleton] at hz; rw [hz]; exact v.hg
theorem PX.resetD (u : PX w W b q m g A d p m' g' A' gb cs) :
   Calls Tryz.prog 104 #[.pointer (some ⟨g', 0, none⟩)] W fun e w' => e = .returned (.tuple #[]) ∧ PX w w' b q m g A d p m' g' A'.reset gb cs := by
 have P := u.pq
 refine (r_reset P.r P.t).mono ?_
 rintro e w' ⟨rfl, h1, h2⟩
 refine ⟨rfl, u.docu ⟨P.t.kp h2 P.rs.gne, h1, P.ng.2.1, h2.mono (by simp), fun x hx => .inl hx, Blk.lt P.r, rfl⟩ ⟨P.ok.sp, P.ok.po, Nat.zero_le _, Nat.zero_le _, Nat.zero_le _, Nat.zero_le _⟩ P.tl⟩
theorem PX.killP (u : PX w W b q m g A d p m' g' A' gb cs) (a : Int) (ha : W64 a) (hq : q ≤ 900000000) :
   Calls Tryz.prog 51 #[.pointer (some ⟨b.g, 0, none⟩), .int .i64 a] W fun e w' => e = .returned (.int .i64 (m.lackE a)) ∧ PX w w' b q (m.killM a) g A d p m' g' A' gb cs := by
 refine (h_kill u.pq.v.sh a ha (by omega)).mono ?_
 rintro e w' ⟨rfl, h1, h2⟩
 exact ⟨rfl, u.heapP h1 h2⟩
theorem PX.killD (u : PX w W b q m g A d p m' g' A' gb cs) (a : Int) :
   Calls Tryz.prog 67 #[.pointer (some ⟨d.g, 0, none⟩), .int .i64 a] W fun e w' => e = .returned (.int .i64 (m'.lackE a)) ∧ ∃ d2, d2.g = d.g ∧ PX w w' b q m g A d2 p (m'.killM a) g' A' gb cs := by
 refine (d_kill u.pq.t a).mono ?_
 rintro e w' ⟨rfl, D⟩
 exact ⟨rfl, u.heapD D (Tl.kill u.pq.tl a)⟩
theorem PX.claimP (u : PX w W b q m g A d p m' g' A' gb cs) (a s : Int) :
   Calls Tryz.prog 43 #[.pointer (some ⟨b.g, 0, none⟩), .int .i64 a, .int .i64 s] W fun e w' => e = .returned (.int .i64 (m.claimE a 1 s)) ∧ PX w w' b q (m.claimM a 1 s 1) g A d p m' g' A' gb cs := by
 refine (h_Claim u.pq.v.sh a s).mono ?_
 rintro e w' ⟨rfl, h1, h2⟩
 exact ⟨rfl, u.heapP h1 h2⟩
theorem PX.claimD (u : PX w W b q m g A d p m' g' A' gb cs) (a s : Int) :
   Calls Tryz.prog 61 #[.pointer (some ⟨d.g, 0, none⟩), .int .i64 a, .int .i64 s] W fun e w' => e = .returned (.int .i64 (m'.claimE a 1 s)) ∧ ∃ d2, d2.g = d.g ∧ PX w w' b q m g A d2 p (m'.claimM a 1 s 1) g' A' gb cs := by
 refine (d_Claim u.pq.t a s).mono ?_
 rintro e w' ⟨rfl, D⟩
 exact ⟨rfl, u.heapD D (Tl.claim u.pq.tl a 1 s (.inr ⟨rfl, rfl⟩))⟩
theorem PX.releaseP (u : PX w W b q m g A d p m' g' A' gb cs) (a : Int) :
   Calls Tryz.prog 52 #[.pointer (some ⟨b.g, 0, none⟩), .int .i64 a] W fun e w' => e = .returned (.int .i64 (m.releaseE a)) ∧ PX w w' b q (m.releaseM a) g A d p m' g' A' gb cs := by
 refine (h_release u.pq.v.sh a).mono ?_
 rintro e w' ⟨rfl, h1, h2⟩
 exact ⟨rfl, u.heapP h1 h2⟩
theorem PX.releaseD (u : PX w W b q m g A d p m' g' A' gb cs) (a : Int) :
   Calls Tryz.prog 63 #[.pointer (some ⟨d.g, 0, none⟩), .int .i64 a] W fun e w' => e = .returned (.int .i64 (m'.releaseE a)) ∧ ∃ d2, d2.g = d.g ∧ PX w w' b q m g A d2 p (m'.releaseM a) g' A' gb cs := by
 refine (d_release u.pq.t u.pq.tl a).mono ?_
 rintro e w' ⟨rfl, D⟩
 exact ⟨rfl, u.heapD D (Tl.release u.pq.tl a)⟩
theorem PX.retagP (u : PX w W b q m g A d p m' g' A' gb cs) (a s : Int) :
   Calls Tryz.prog 64 #[.pointer (some ⟨b.g, 0, none⟩), .int .i64 a, .int .i64 s] W fun e w' => e = .returned (.int .i64 (m.retagE a s)) ∧ PX w w' b q (m.retagM a s) g A d p m' g' A' gb cs := by
 refine (h_retag u.pq.v.sh a s).mono ?_
 rintro e w' ⟨rfl, h1, h2⟩
 exact ⟨rfl, u.heapP h1 h2⟩
theorem PX.retagD (u : PX w W b q m g A d p m' g' A' gb cs) (a s : Int) :
   Calls Tryz.prog 65 #[.pointer (some ⟨d.g, 0, none⟩), .int .i64 a, .int .i64 s] W fun e w' => e = .returned (.int .i64 (m'.retagE a s)) ∧ ∃ d2, d2.g = d.g ∧ PX w w' b q m g A d2 p (m'.retagM a s) g' A' gb cs := by
 refine (d_retag u.pq.t u.pq.tl a s).mono ?_
 rintro e w' ⟨rfl, D⟩
 exact ⟨rfl, u.heapD D (Tl.retag u.pq.tl a s)⟩
theorem PX.placeP (u : PX w W b q m g A d p m' g' A' gb cs) (a x y z : Int) (ha : W64 a) (hq : q ≤ 900000000) :
   Calls Tryz.prog 44 #[.pointer (some ⟨b.g, 0, none⟩), .int .i64 a, .agg #[.int .i64 x, .int .i64 y, .int .i64 z]] W fun e w' => e = .returned (.tuple #[.int .i64 (m.placeV a x y z), .int .i64 (m.placeE a x y z)]) ∧ PX w w' b (q + 1) (m.placeM a x y z) g A d p m' g' A' gb cs := by
 refine (h_place u.pq.v.sh a x y z ha hq).mono ?_
 rintro e w' ⟨rfl, h1, h2⟩
 exact ⟨rfl, u.heapP h1 h2⟩
theorem PX.placeD (u : PX w W b q m g A d p m' g' A' gb cs) (a x y z : Int) (ha : W64 a) (hp : p ≤ 900000000) :
   Calls Tryz.prog 66 #[.pointer (some ⟨d.g, 0, none⟩), .int .i64 a, .agg #[.int .i64 x, .int .i64 y, .int .i64 z]] W fun e w' => e = .returned (.tuple #[.int .i64 (m'.placeV a x y z), .int .i64 (m'.placeE a x y z)]) ∧ ∃ d2, d2.g = d.g ∧ PX w w' b q m g A d2 (p + 1) (m'.placeM a x y z) g' A' gb cs := by
 refine (d_place u.pq.t a x y z ha hp).mono ?_
 rintro e w' ⟨rfl, D⟩
 exact ⟨rfl, u.heapD D (Tl.place u.pq.tl a x y z)⟩
theorem l_one (T : DR W d p m') (n : Int) (hn : W64 n) :
   Calls Tryz.prog 102 #[.pointer (some ⟨d.g, 0, none⟩), .int .i64 n] W fun e w' => e = .returned (.int .i64 (m'.oneV n)) ∧ Kp [] W w' := by
 have HT := hid T
 have hle := all_le T.inv
 have HR : Hid (m'.oneV n = if m'.allL.length = 0 ∨ n < 0 then 0 else m'.allL.getD (n.toNat % m'.allL.length) 0) := rfl
 have HD := hid (d_all T)
 generalize m'.oneV n = r at HR ⊢
 generalize m'.allL = L at HR HD hle
 clear T
 by_cases h0 : L.length = 0
 · have hr : r = 0 := by rw [HR.out, if_pos (.inl h0)]
   subst hr
   obtain rfl : L = [] := List.length_eq_zero_iff.1 h0
   clear h0 HR hle
   go_enter Tryz.func102, Tryz.ntmps102
   go_wp2_with (go_at_call 87; refine HD.out.mono ?_; rintro e w1 ⟨v, rfl, own, bel⟩; obtain ⟨Ad, cap, rfl, hc1, hc2, hA⟩ := FarI.of_own own; have HK := hid (Kp.of_below bel); clear own bel)
   go_ret
   exact ⟨rfl, HK.out⟩
 · have hlb : (L.length : Int) ≠ 0 := by omega
   have tb : ((L.length : Int) == 0) = false := beq_eq_false_iff_ne.2 hlb
   have tbn : (L.length == 0) = false := beq_eq_false_iff_ne.2 h0
   by_cases hn0 : n < 0
   · have hr : r = 0 := by rw [HR.out, if_pos (.inr hn0)]
     subst hr
     have tn : decide (n < 0) = true := decide_eq_true hn0
     clear HR h0
     go_enter Tryz.func102, Tryz.ntmps102
     go_wp2_with (go_at_call 87; refine HD.out.mono ?_; rintro e w1 ⟨v, rfl, own, bel⟩; obtain ⟨Ad, cap, rfl, hc1, hc2, hA⟩ := FarI.of_own own; have HK := hid (Kp.of_below bel); clear own bel)
     go_ret
     exact ⟨rfl, HK.out⟩
   · have tn : decide (n < 0) = false := decide_eq_false hn0
     obtain ⟨k, hk⟩ : ∃ k, n.toNat % L.length = k := ⟨_, rfl⟩
     have hkl : k < L.length := by rw [← hk]; exact Nat.mod_lt _ (by omega)
     have hr : r = L.getD k 0 := by rw [HR.out, if_neg (by omega), hk]
     have HRR := hid hr
     have hm : Int.tmod n (L.length : Int) = (k : Int) := by
       rw [Int.tmod_eq_emod_of_nonneg (by omega), ← hk]
       have : n = ((n.toNat : Nat) : Int) := by omega
       rw [this]
       simp
     have hw : IntKind.i64.wrap (k : Int) = (k : Int) := by rw [IntKind.wrap_i64]; omega
     have hki : (k : Int) < (L.length : Int) := by omega
     have HLE : Hid (L.length ≤ 2048) := hle
     clear HR h0 hk hr
     go_enter Tryz.func102, Tryz.ntmps102
     go_wp2_with (go_at_call 87; refine HD.out.mono ?_; rintro e w1 ⟨v, rfl, own, bel⟩; obtain ⟨Ad, cap, rfl, hc1, hc2, hA⟩ := FarI.of_own own; obtain ⟨g1, rfl, _, s0⟩ := hA k hkl; rw [← HRR.out] at s0; have HK := hid (Kp.of_below bel); clear own bel)
     go_ret
     exact ⟨rfl, HK.out⟩
end
end Go.Proofs.YthndilllnneijaaGreat
