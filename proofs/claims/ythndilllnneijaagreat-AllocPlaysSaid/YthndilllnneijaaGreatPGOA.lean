/-
  The contracts of the document's allocator: New, Made, Reset, Cursor, Space, Policy, Clone. Conditions: those that stand in each theorem.
-/
import Derived.Test.YthndilllnneijaaGreatPGJI
import Derived.Test.YthndilllnneijaaGreatPG21
import Derived.Test.YthndilllnneijaaGreatPG15
import Derived.Test.YthndilllnneijaaGreatPDx
import Derived.Test.YthndilllnneijaaGreatPG17
import Derived.Test.YthndilllnneijaaGreatPGJA
set_option linter.unusedSimpArgs false
set_option linter.unusedVariables false
set_option maxRecDepth 100000
set_option maxHeartbeats 4000000
namespace Go.Proofs.YthndilllnneijaaGreat
open Go.RowKit Go.Deep Go.Maps
abbrev raCells (d : DB) (A : AS) : Array Value := #[.pointer (some ⟨d.g, 0, none⟩), .int .i64 (A.sp : Int), .int .i64 (A.po : Int), .int .i64 (A.c : Int), .int .i64 (A.l : Int), .int .i64 (A.oc : Int), .int .i64 (A.ol : Int)]
def RAL (W : World) (g : Nat) (d : DB) (A : AS) : Prop := Blk W g 126 (raCells d A)
theorem RAL.cur {W : World} {g : Nat} {d : DB} {A A2 : AS} (h : RAL W g d A) (h1 : A2.sp = A.sp) (h2 : A2.po = A.po) : RAL ((((W.setCell ⟨g, 3, none⟩ (.int .i64 (A2.c : Int))).setCell ⟨g, 4, none⟩ (.int .i64 (A2.l : Int))).setCell ⟨g, 5, none⟩ (.int .i64 (A2.oc : Int))).setCell ⟨g, 6, none⟩ (.int .i64 (A2.ol : Int))) g d A2 := by
 have := (((Blk.set_ h 3 (.int .i64 (A2.c : Int))).set_ 4 (.int .i64 (A2.l : Int))).set_ 5 (.int .i64 (A2.oc : Int))).set_ 6 (.int .i64 (A2.ol : Int))
 unfold RAL raCells
 rw [h1, h2]
 exact this
section
variable {w W V : World} {d : DB} {m : HM} {q g : Nat} {A : AS}
theorem RAL.kp (h : RAL w g d A) {S : List Nat} (k : Kp S w W) (hg : g ∉ S) : RAL W g d A := Blk.kp h k hg
theorem dmade_k (T : DR w d q m) :
   Calls Tryz.prog 60 #[.pointer (some ⟨d.g, 0, none⟩)] w fun e w' => e = .returned (.bool true) ∧ Kp [] w w' := by
 refine (d_made T).mono ?_
 rintro e w' ⟨rfl, n, rfl⟩
 exact ⟨rfl, Kp.draw _ _⟩
theorem r_made (h : RAL w g d A) (T : DR w d q m) :
   Calls Tryz.prog 100 #[.pointer (some ⟨g, 0, none⟩)] w fun e w' => e = .returned (.bool true) ∧ Kp [] w w' := by
 have c0 := h.cell 0
 have HT := hid T
 clear h T
 go_enter Tryz.func100, Tryz.ntmps100
 go_wp2_with (go_at_call 60; refine (dmade_k HT.out).mono ?_; rintro e w1 ⟨rfl, K1⟩; have HK1 := hid K1; clear K1)
 go_ret
 exact ⟨rfl, HK1.out⟩
theorem r_new_bad (T : DR w d q m) (s p : Int) (hsp : ¬ (0 ≤ s ∧ s < 8 ∧ 0 ≤ p ∧ p < 5)) :
   Calls Tryz.prog 22 #[.pointer (some ⟨d.g, 0, none⟩), .int .i64 s, .int .i64 p] w fun e w' => e = .returned (.tuple #[.pointer none, .int .i64 1]) ∧ Kp [] w w' := by
 have HIS := hid (dmade_k T)
 clear T
 by_cases h1 : s < 0
 · have t1 : decide (s < 0) = true := decide_eq_true h1
   clear hsp
   go_enter Tryz.func22, Tryz.ntmps22
   go_wp2_with (go_at_call 60; refine HIS.out.mono ?_; rintro e w1 ⟨rfl, K1⟩; have HK1 := hid K1; clear K1)
   go_ret2
   exact ⟨rfl, HK1.out⟩
 by_cases h2 : 8 ≤ s
 · have t1 : decide (s < 0) = false := decide_eq_false h1
   have t2 : decide (8 ≤ s) = true := decide_eq_true h2
   clear hsp
   go_enter Tryz.func22, Tryz.ntmps22
   go_wp2_with (go_at_call 60; refine HIS.out.mono ?_; rintro e w1 ⟨rfl, K1⟩; have HK1 := hid K1; clear K1)
   go_ret2
   exact ⟨rfl, HK1.out⟩
 by_cases h3 : p < 0
 · have t1 : decide (s < 0) = false := decide_eq_false h1
   have t2 : decide (8 ≤ s) = false := decide_eq_false h2
   have t3 : decide (p < 0) = true := decide_eq_true h3
   clear hsp
   go_enter Tryz.func22, Tryz.ntmps22
   go_wp2_with (go_at_call 60; refine HIS.out.mono ?_; rintro e w1 ⟨rfl, K1⟩; have HK1 := hid K1; clear K1)
   go_ret2
   exact ⟨rfl, HK1.out⟩
 have h4 : 4 < p := by omega
 have t1 : decide (s < 0) = false := decide_eq_false h1
 have t2 : decide (8 ≤ s) = false := decide_eq_false h2
 have t3 : decide (p < 0) = false := decide_eq_false h3
 have t4 : decide (4 < p) = true := decide_eq_true h4
 clear hsp
 go_enter Tryz.func22, Tryz.ntmps22
 go_wp2_with (go_at_call 60; refine HIS.out.mono ?_; rintro e w1 ⟨rfl, K1⟩; have HK1 := hid K1; clear K1)
 go_ret2
 exact ⟨rfl, HK1.out⟩
theorem r_new (T : DR w d q m) (s p : Nat) (hs : s < 8) (hp : p < 5) :
   Calls Tryz.prog 22 #[.pointer (some ⟨d.g, 0, none⟩), .int .i64 (s : Int), .int .i64 (p : Int)] w fun e w' => ∃ g, e = .returned (.tuple #[.pointer (some ⟨g, 0, none⟩), .int .i64 0]) ∧ RAL w' g d (AS.new s p) ∧ w.heap.size ≤ g ∧ Kp [] w w' := by
 have HIS := hid (dmade_k T)
 clear T
 have t1 : decide ((s : Int) < 0) = false := decide_eq_false (by omega)
 have t2 : decide (8 ≤ (s : Int)) = false := decide_eq_false (by omega)
 have t3 : decide ((p : Int) < 0) = false := decide_eq_false (by omega)
 have t4 : decide (4 < (p : Int)) = false := decide_eq_false (by omega)
 clear hs hp
 go_enter Tryz.func22, Tryz.ntmps22
 go_wp2_with (go_at_call 60; refine HIS.out.mono ?_; rintro e w1 ⟨rfl, K1⟩; have HK1 := hid K1; clear K1)
 go_ret2
 exact ⟨_, rfl, Blk.new w1 126 (raCells d (AS.new s p)), HK1.out.size, HK1.out.chain (Kp.new _ _)⟩
theorem r_cursor (h : RAL w g d A) (T : DR w d q m) :
   Calls Tryz.prog 105 #[.pointer (some ⟨g, 0, none⟩)] w fun e w' => e = .returned (.tuple #[.int .i64 (A.c : Int), .int .i64 (A.l : Int), .int .i64 (A.oc : Int), .int .i64 (A.ol : Int)]) ∧ Kp [] w w' := by
 have HA := hid h
 have HT := hid T
 clear h T
 go_enter Tryz.func105, Tryz.ntmps105
 go_wp2_with (go_at_call 100; refine (r_made HA.out HT.out).mono ?_; rintro e w1 ⟨rfl, K1⟩; have A1 := HA.out.kp K1 (by simp); have c3 := A1.cell 3; have c4 := A1.cell 4; have c5 := A1.cell 5; have c6 := A1.cell 6; have HK1 := hid K1; clear K1 A1)
 go_quiet (fail)
 go_wp2
 refine bodyPost_ret (v := .tuple #[.int .i64 (A.c : Int), .int .i64 (A.l : Int), .int .i64 (A.oc : Int), .int .i64 (A.ol : Int)]) ?_ rfl ⟨rfl, ?_⟩
 · simp [results, Tryz.results105, go_sem]
 · first | exact HK1.out.drewN _ | exact HK1.out
theorem r_space (h : RAL w g d A) (T : DR w d q m) :
   Calls Tryz.prog 107 #[.pointer (some ⟨g, 0, none⟩)] w fun e w' => e = .returned (.int .i64 (A.sp : Int)) ∧ Kp [] w w' := by
 have HA := hid h
 have HT := hid T
 clear h T
 go_enter Tryz.func107, Tryz.ntmps107
 go_wp2_with (go_at_call 100; refine (r_made HA.out HT.out).mono ?_; rintro e w1 ⟨rfl, K1⟩; have c1 := (HA.out.kp K1 (by simp)).cell 1; have HK1 := hid K1; clear K1)
 go_ret
 exact ⟨rfl, HK1.out⟩
theorem r_policy (h : RAL w g d A) (T : DR w d q m) :
   Calls Tryz.prog 109 #[.pointer (some ⟨g, 0, none⟩)] w fun e w' => e = .returned (.int .i64 (A.po : Int)) ∧ Kp [] w w' := by
 have HA := hid h
 have HT := hid T
 clear h T
 go_enter Tryz.func109, Tryz.ntmps109
 go_wp2_with (go_at_call 100; refine (r_made HA.out HT.out).mono ?_; rintro e w1 ⟨rfl, K1⟩; have c2 := (HA.out.kp K1 (by simp)).cell 2; have HK1 := hid K1; clear K1)
 go_ret
 exact ⟨rfl, HK1.out⟩
theorem r_reset (h : RAL w g d A) (T : DR w d q m) :
   Calls Tryz.prog 104 #[.pointer (some ⟨g, 0, none⟩)] w fun e w' => e = .returned (.tuple #[]) ∧ RAL w' g d A.reset ∧ Kp [g] w w' := by
 have HA := hid h
 have HT := hid T
 clear h T
 go_enter Tryz.func104, Tryz.ntmps104
 go_wp2_with (go_at_call 100; refine (r_made HA.out HT.out).mono ?_; rintro e w1 ⟨rfl, K1⟩; have A1 := HA.out.kp K1 (by simp); have HA1 := hid A1; have c3 := A1.cell 3; have c4 := A1.cell 4; have c5 := A1.cell 5; have c6 := A1.cell 6; have f3 := A1.frozen 3; have f4 := A1.frozen 4; have f5 := A1.frozen 5; have f6 := A1.frozen 6; have HK1 := hid K1; clear K1 A1)
 go_end0
 exact ⟨rfl, HA1.out.cur (A2 := A.reset) rfl rfl, HK1.out.chain0 (cur_kp _ _ _ _ _ _)⟩
theorem r_clone {d2 : DB} {q2 : Nat} {m2 : HM} (h : RAL w g d A) (T : DR w d q m) (T2 : DR w d2 q2 m2) :
   Calls Tryz.prog 24 #[.pointer (some ⟨g, 0, none⟩), .pointer (some ⟨d2.g, 0, none⟩)] w fun e w' => ∃ g2, e = .returned (.pointer (some ⟨g2, 0, none⟩)) ∧ RAL w' g2 d2 A ∧ w.heap.size ≤ g2 ∧ Kp [] w w' := by
 have HA := hid h
 have HT := hid T
 have H2 := hid T2
 clear h T T2
 go_enter Tryz.func24, Tryz.ntmps24
 go_wp2_with (first
   | (go_at_call 100; refine (r_made HA.out HT.out).mono ?_; rintro e w1 ⟨rfl, K1⟩; have HK1 := hid K1; clear K1)
   | (go_at_call 60; refine (dmade_k (H2.out.kp0 HK1.out)).mono ?_; rintro e w2 ⟨rfl, K2⟩; have HK2 := hid (HK1.out.chain K2); have A2 := HA.out.kp HK2.out (by simp); have c0 := A2.cell 0; have c1 := A2.cell 1; have c2 := A2.cell 2; have c3 := A2.cell 3; have c4 := A2.cell 4; have c5 := A2.cell 5; have c6 := A2.cell 6; clear K2 A2))
 go_ret
 exact ⟨_, rfl, Blk.new w2 126 (raCells d2 A), HK2.out.size, HK2.out.chain (Kp.new _ _)⟩
end
structure RS (w W : World) (d0 d : DB) (q : Nat) (m : HM) (g : Nat) (A : AS) : Prop where
 dr : DR W d q m
 al : RAL W g d A
 gd : g ∉ d.all
 kp : Kp (g :: d0.all) w W
 sub : ∀ x ∈ d.all, x ∈ d0.all ∨ w.heap.size ≤ x
 hg : g < w.heap.size
 gg : d.g = d0.g
structure RB (w W : World) (d0 d : DB) (q : Nat) (m : HM) (g : Nat) (A : AS) (g3 : Nat) (x y z : Int) : Prop where
 rs : RS w W d0 d q m g A
 b3 : Blk W g3 33 #[.int .i64 x, .int .i64 y, .int .i64 z]
 h3 : g3 ∉ d.all
section
variable {w W V : World} {d0 d : DB} {m m' : HM} {q q' g g3 : Nat} {A A2 : AS} {x y z : Int}
theorem RS.start (T : DR w d q m) (h : RAL w g d A) (hg : g ∉ d.all) (hl : g < w.heap.size) : RS w w d d q m g A := ⟨T, h, hg, Kp.refl _ _, fun x hx => .inl hx, hl, rfl⟩
theorem RS.step (u : RS w W d0 d q m g A) (K : Kp [] W V) : RS w V d0 d q m g A := ⟨u.dr.kp0 K, u.al.kp K (by simp), u.gd, u.kp.chain K, u.sub, u.hg, u.gg⟩
theorem RS.mono (u : RS w W d0 d q m g A) (h : q ≤ q') : RS w W d0 d q' m g A := ⟨u.dr.mono h, u.al, u.gd, u.kp, u.sub, u.hg, u.gg⟩
theorem RS.heap (u : RS w W d0 d q m g A) (h : DChg W d q' m' V) : ∃ d', RS w V d0 d' q' m' g A := by
 obtain ⟨d', h1, T, K, hs⟩ := h
 have hw := u.kp.size
 refine ⟨d', T, ?_, ?_, u.kp.trans K (U := g :: d0.all) (fun z hz => .inl hz) ?_, ?_, u.hg, h1.trans u.gg⟩
 · have := u.al.kp K u.gd
   unfold RAL raCells at this ⊢
   rw [h1]
   exact this
 · intro hm
   rcases hs g hm with h | h
   · exact u.gd h
   · have := u.hg; omega
 · intro z hz
   rcases u.sub z hz with h | h
   · exact .inl (List.mem_cons_of_mem _ h)
   · exact .inr h
 · intro z hz
   rcases hs z hz with h | h
   · exact u.sub z h
   · exact .inr (by omega)
theorem RB.start (u : RS w W d0 d q m g A) (x y z : Int) : RB w (W.alloc (.cells #[.int .i64 x, .int .i64 y, .int .i64 z] 33)) d0 d q m g A W.heap.size x y z :=
 ⟨u.step (Kp.new _ _), Blk.new _ _ _, fun hm => by have := u.dr.lt _ hm; omega⟩
theorem RB.step (u : RB w W d0 d q m g A g3 x y z) (K : Kp [] W V) : RB w V d0 d q m g A g3 x y z := ⟨u.rs.step K, u.b3.kp K (by simp), u.h3⟩
theorem RB.heap (u : RB w W d0 d q m g A g3 x y z) (h : DChg W d q' m' V) : ∃ d', RB w V d0 d' q' m' g A g3 x y z := by
 have hl : g3 < W.heap.size := Blk.lt u.b3
 obtain ⟨d', h1, T, K, hs⟩ := h
 obtain ⟨d2, hr⟩ := u.rs.heap ⟨d', h1, T, K, hs⟩
 have h2 := u.rs.heap ⟨d', h1, T, K, hs⟩
 have hk := u.b3.kp K u.h3
 have hw := u.rs.kp.size
 refine ⟨d', ⟨T, ?_, ?_, hr.kp, ?_, hr.hg, h1.trans u.rs.gg⟩, hk, ?_⟩
 · have := u.rs.al.kp K u.rs.gd
   unfold RAL raCells at this ⊢
   rw [h1]
   exact this
 · intro hm
   rcases hs g hm with h | h
   · exact u.rs.gd h
   · have := u.rs.hg; omega
 · intro z hz
   rcases hs z hz with h | h
   · exact u.rs.sub z h
   · exact .inr (by omega)
 · intro hm
   rcases hs g3 hm with h | h
   · exact u.h3 h
   · omega
end
def HM.rp1 (m : HM) (s blk : Nat) : HM := if 0 < blk then m.claimM (blk : Int) 1 (s : Int) 1 else m
def spV (m : HM) (i : Int) : Int := if inB m.bl.length i then (m.sp i.toNat : Int) else -1
def HM.rpOff (m : HM) (s a : Nat) (n : Nat) : Bool := !decide (32 < n) && (spV m ((a / 64 : Nat) : Int) != (s : Int))
def HM.rpM (m : HM) (s a blk : Nat) (x y z : Int) : HM := if (m.rp1 s blk).rpOff s a (wdN x.toNat y.toNat) = true then m.rp1 s blk else (m.rp1 s blk).placeM (a : Int) x y z
def HM.rpE (m : HM) (s a blk : Nat) (x y z : Int) : Int := if (m.rp1 s blk).rpOff s a (wdN x.toNat y.toNat) = true then 6 else if (m.rp1 s blk).placeE (a : Int) x y z = 0 then 0 else 6
def HM.rpV (m : HM) (s a blk : Nat) (x y z : Int) : Int := if m.rpE s a blk x y z = 0 then (a : Int) else 0
section
variable {w W V : World} {d0 d : DB} {m m' : HM} {q q' g g3 : Nat} {A A2 : AS}
theorem RAL.sp_ (h : RAL W g d A) {s : Nat} (hs : A.sp = s) : W.cell? ⟨g, 1, none⟩ = some (.int .i64 (s : Int)) := by rw [← hs]; exact h.cell 1
theorem spO_k (T : DR w d q m) (i : Int) {v : Int} (hv : spV m i = v) :
   Calls Tryz.prog 89 #[.pointer (some ⟨d.g, 0, none⟩), .int .i64 i] w fun e w' => e = .returned (.int .i64 v) ∧ Kp [] w w' := by
 refine (d_spaceOf T i).mono ?_
 rintro e w' ⟨rfl, n, rfl⟩
 subst hv
 exact ⟨rfl, Kp.draw _ _⟩
theorem RS.c0 (u : RS w W d0 d q m g A) : W.cell? ⟨g, 0, none⟩ = some (.pointer (some ⟨d0.g, 0, none⟩)) := by rw [← u.gg]; exact u.al.cell 0
theorem RB.claim {x y z : Int} (u : RB w W d0 d q m g A g3 x y z) (i s : Int) (hm : m.claimM i 1 s 1 = m') :
   Calls Tryz.prog 61 #[.pointer (some ⟨d0.g, 0, none⟩), .int .i64 i, .int .i64 s] W fun e w' => e = .returned (.int .i64 (m.claimE i 1 s)) ∧ ∃ d', RB w w' d0 d' q m' g A g3 x y z := by
 rw [← u.rs.gg]
 refine (d_Claim u.rs.dr i s).mono ?_
 rintro e w' ⟨rfl, D⟩
 rw [hm] at D
 exact ⟨rfl, u.heap D⟩
theorem RB.space {x y z : Int} (u : RB w W d0 d q m g A g3 x y z) (i : Int) {v : Int} (hv : spV m i = v) :
   Calls Tryz.prog 89 #[.pointer (some ⟨d0.g, 0, none⟩), .int .i64 i] W fun e w' => e = .returned (.int .i64 v) ∧ RB w w' d0 d q m g A g3 x y z := by
 rw [← u.rs.gg]
 refine (spO_k u.rs.dr i hv).mono ?_
 rintro e w' ⟨rfl, K⟩
 exact ⟨rfl, u.step K⟩
theorem RB.place {x1 y1 z1 : Int} (u : RB w W d0 d q m g A g3 x1 y1 z1) (a x y z : Int) (ha : W64 a) (hq : q ≤ 900000000) {pe : Int} (hp : m.placeE a x y z = pe) :
   Calls Tryz.prog 66 #[.pointer (some ⟨d0.g, 0, none⟩), .int .i64 a, .agg #[.int .i64 x, .int .i64 y, .int .i64 z]] W fun e w' => e = .returned (.tuple #[.int .i64 (m.placeV a x y z), .int .i64 pe]) ∧ ∃ d', RS w w' d0 d' (q + 1) (m.placeM a x y z) g A ∧ Blk w' g3 33 #[.int .i64 x1, .int .i64 y1, .int .i64 z1] := by
 rw [← u.rs.gg]
 refine (d_place u.rs.dr a x y z ha hq).mono ?_
 rintro e w' ⟨rfl, D⟩
 rw [hp]
 obtain ⟨d', U⟩ := u.heap D
 exact ⟨rfl, d', U.rs, U.b3⟩
end
def goodF (m : HM) (c b : Nat) : Prop := ∀ j, j < c → m.st (b + j) = 0
theorem frun_all {m : HM} : ∀ {k c : Nat}, frun m (k + 1) = c → 1 ≤ k → c ≤ k ∧ goodF m c (k + 1 - c) := by
 intro k
 induction k with
 | zero => intro c _ h; omega
 | succ k ih =>
   intro c h _
   by_cases h0 : m.st (k + 1) = 0
   · rw [frun_free (by omega) h0] at h
     obtain rfl : c = frun m (k + 1) + 1 := h.symm
     by_cases hk : k = 0
     · subst hk
       have h1 : frun m (0 + 1) = 0 := rfl
       rw [h1]
       refine ⟨by omega, fun j hj => ?_⟩
       obtain rfl : j = 0 := by omega
       exact h0
     · obtain ⟨h1, h2⟩ := ih rfl (by omega)
       refine ⟨by omega, fun j hj => ?_⟩
       by_cases hj2 : j = frun m (k + 1)
       · subst hj2
         rw [show k + 1 + 1 - (frun m (k + 1) + 1) + frun m (k + 1) = k + 1 by omega]
         exact h0
       · rw [show k + 1 + 1 - (frun m (k + 1) + 1) + j = k + 1 - frun m (k + 1) + j by omega]
         exact h2 j (by omega)
   · rw [frun_used h0] at h
     subst h
     exact ⟨by omega, fun j hj => by omega⟩
theorem frun_of {m : HM} {b : Nat} (hb : 1 ≤ b) (h0 : b = 1 ∨ m.st (b - 1) ≠ 0) : ∀ c, goodF m c b → frun m (b + c) = c := by
 intro c
 induction c with
 | zero =>
   intro _
   rcases h0 with rfl | h
   · rfl
   · obtain ⟨k, rfl⟩ : ∃ k, b = k + 1 := ⟨b - 1, by omega⟩
     exact frun_used h
 | succ c ih =>
   intro h
   rw [← Nat.add_assoc, frun_free (by omega) (h c (by omega)), ih (fun j hj => h j (by omega))]
theorem freeB_first {m : HM} {c b : Nat} (hb : 1 ≤ b) (hc : 1 ≤ c) (hn : b + c ≤ m.bl.length) (h : goodF m c b) (hno : ∀ b', 1 ≤ b' → b' < b → ¬ goodF m c b') : m.freeB c = b * 64 := by
 have h0 : b = 1 ∨ m.st (b - 1) ≠ 0 := by
   by_cases h1 : b = 1
   · exact .inl h1
   · refine .inr fun h2 => hno (b - 1) (by omega) (by omega) fun j hj => ?_
     by_cases hj0 : j = 0
     · subst hj0; exact h2
     · have := h (j - 1) (by omega)
       rw [show b - 1 + j = b + (j - 1) by omega]
       exact this
 have hr := frun_of hb h0 c h
 have := freeB_at (m := m) (c := c) (k := b + c - 1) (by omega) (by omega) (by have := h (c - 1) (by omega); rw [show b + c - 1 = b + (c - 1) by omega]; exact this) (by rw [show b + c - 1 + 1 = b + c by omega]; exact hr)
   (fun j h1 h2 h3 h4 => by
     obtain ⟨h5, h6⟩ := frun_all h4 h1
     exact hno (j + 1 - c) (by omega) (by omega) h6)
 rw [this, show b + c - 1 + 1 - c = b by omega]
theorem freeB_none {m : HM} {c : Nat} (hno : ∀ b', 1 ≤ b' → b' + c ≤ m.bl.length → ¬ goodF m c b') : m.freeB c = 0 :=
 freeB_no fun j h1 h2 h3 h4 => by
   obtain ⟨h5, h6⟩ := frun_all h4 h1
   exact hno (j + 1 - c) (by omega) (by omega) h6
section
variable {w W V : World} {d : DB} {m : HM} {q : Nat}
theorem dnb_k (T : DR w d q m) :
   Calls Tryz.prog 81 #[.pointer (some ⟨d.g, 0, none⟩)] w fun e w' => e = .returned (.int .i64 (m.bl.length : Int)) ∧ Kp [] w w' := by
 refine (d_blocks T).mono ?_
 rintro e w' ⟨rfl, n, rfl⟩
 exact ⟨rfl, Kp.draw _ _⟩
theorem dst_k (T : DR w d q m) (i : Int) {v : Int} (hv : (if inB m.bl.length i then (m.st i.toNat : Int) else -1) = v) :
   Calls Tryz.prog 88 #[.pointer (some ⟨d.g, 0, none⟩), .int .i64 i] w fun e w' => e = .returned (.int .i64 v) ∧ Kp [] w w' := by
 refine (d_state T i).mono ?_
 rintro e w' ⟨rfl, n, rfl⟩
 rw [hv]
 exact ⟨rfl, Kp.draw _ _⟩
theorem r_free (T : DR w d q m) (c : Nat) (hc : 1 ≤ c) (hc2 : c ≤ 1000) :
   Calls Tryz.prog 167 #[.pointer (some ⟨d.g, 0, none⟩), .int .i64 (c : Int)] w fun e w' => e = .returned (.int .i64 ((m.freeB c / 64 : Nat) : Int)) ∧ Kp [] w w' := by
 have HT := hid T
 have hl := T.inv.len64
 have hl2 := T.inv.len2
 generalize hn : m.bl.length = n at hl hl2
 have HN := hid hn
 clear T hn
 go_enter Tryz.func167, Tryz.ntmps167
 go_wp2
 go_loopw [5, 6] (fun b _ wr => ∃ i : Nat, 1 ≤ i ∧ i ≤ n ∧ b = .int .i64 (i : Int) ∧ Hid (∀ b', 1 ≤ b' → b' < i → ¬ goodF m c b') ∧ Kp [] w wr) (fun b _ _ => n - (intOf b).toNat)
 case atStart => exact ⟨1, by omega, by omega, rfl, fun b' h1 h2 => by omega, Kp.refl _ _⟩
 case round =>
   rename World => w8
   obtain ⟨i, hi1, hi, rfl, hno, K⟩ := hrel
   have HNO := hid hno
   have HK := hid K
   have HT8 := hid (HT.out.kp0 K)
   clear hno K
   by_cases hlt : i + c ≤ n
   · have hlt2 : decide ((i : Int) + (c : Int) ≤ (n : Int)) = true := decide_eq_true (by omega)
     go_wp2_with (go_at_call 81; refine (dnb_k HT8.out).mono ?_; rintro e w5 ⟨rfl, K5⟩; rw [HN.out]; have HK5 := hid (HK.out.chain K5); have HT5 := hid (HT8.out.kp0 K5); clear K5)
     go_loopw [6] (fun x wq => ∃ z : Nat, z ≤ c ∧ x = .int .i64 (z : Int) ∧ Hid (goodF m z i) ∧ Kp [] w5 wq) (fun x _ => c - (intOf x).toNat)
     case atStart => exact ⟨0, by omega, rfl, fun j hj => by omega, Kp.refl _ _⟩
     case round =>
       obtain ⟨z, hz, rfl, hg, K⟩ := hrel
       have HG := hid hg
       have HKQ := hid (HK5.out.chain K)
       have HTQ := hid (HT5.out.kp0 K)
       have HKZ := hid K
       clear hg K
       by_cases hlz : z < c
       · have tz : decide ((z : Int) < (c : Int)) = true := decide_eq_true (by omega)
         by_cases h0 : m.st (i + z) = 0
         · have HX : Hid ((if inB m.bl.length ((i : Int) + (z : Int)) then (m.st ((i : Int) + (z : Int)).toNat : Int) else -1) = 0) := by
             show _ = _
             rw [show (i : Int) + (z : Int) = ((i + z : Nat) : Int) by omega, stV_eq, if_pos (by rw [HN.out]; omega), h0]
             rfl
           have HG2 : Hid (goodF m (z + 1) i) := fun j hj => by
             by_cases hj2 : j = z
             · subst hj2; exact h0
             · exact HG.out j (by omega)
           clear h0
           go_wp2_with (go_at_call 88; refine (dst_k HTQ.out _ HX.out).mono ?_; rintro e w6 ⟨rfl, K6⟩; have HK6 := hid (HKZ.out.chain K6); clear K6)
           go_roundw
           case rel => exact ⟨z + 1, by omega, by go_num, HG2, HK6.out⟩
           case measure => simp [intOf]; omega
         · obtain ⟨v, hv⟩ : ∃ v, m.st (i + z) = v := ⟨_, rfl⟩
           have HX : Hid ((if inB m.bl.length ((i : Int) + (z : Int)) then (m.st ((i : Int) + (z : Int)).toNat : Int) else -1) = (v : Int)) := by
             show _ = _
             rw [show (i : Int) + (z : Int) = ((i + z : Nat) : Int) by omega, stV_eq, if_pos (by rw [HN.out]; omega), hv]
           have tv : ((v : Int) == 0) = false := beq_eq_false_iff_ne.2 (by omega)
           have tc : ((z : Int) == (c : Int)) = false := beq_eq_false_iff_ne.2 (by omega)
           have HNO2 : Hid (∀ b', 1 ≤ b' → b' < i + 1 → ¬ goodF m c b') := fun b' h1 h2 h3 => by
             by_cases hb : b' = i
             · subst hb; exact h0 (h3 z hlz)
             · exact HNO.out b' h1 (by omega) h3
           clear h0 hv
           go_wp2_with (go_at_call 88; refine (dst_k HTQ.out _ HX.out).mono ?_; rintro e w6 ⟨rfl, K6⟩; have HK6 := hid (HKQ.out.chain K6); clear K6)
           go_roundw
           case rel => exact ⟨i + 1, by omega, by omega, by go_num, HNO2, HK6.out⟩
           case measure => simp [intOf]; omega
       · obtain rfl : z = c := by omega
         have tz : decide ((z : Int) < (z : Int)) = false := decide_eq_false (by omega)
         have HR : Hid (m.freeB z = i * 64) := freeB_first hi1 hc (by rw [HN.out]; exact hlt) HG.out HNO.out
         go_wp2
         go_ret
         rw [HR.out, Nat.mul_div_cancel _ (by decide)]
         exact ⟨rfl, HKQ.out⟩
   · have hlt2 : decide ((i : Int) + (c : Int) ≤ (n : Int)) = false := decide_eq_false (by omega)
     have HR : Hid (m.freeB c = 0) := freeB_none (fun b' h1 h2 h3 => HNO.out b' h1 (by rw [HN.out] at h2; omega) h3)
     go_wp2_with (go_at_call 81; refine (dnb_k HT8.out).mono ?_; rintro e w5 ⟨rfl, K5⟩; rw [HN.out]; have HK5 := hid (HK.out.chain K5); clear K5)
     go_ret
     rw [HR.out]
     exact ⟨rfl, HK5.out⟩
end
end Go.Proofs.YthndilllnneijaaGreat
