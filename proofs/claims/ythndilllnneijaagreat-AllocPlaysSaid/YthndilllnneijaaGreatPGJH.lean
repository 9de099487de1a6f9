/-
  The contracts of package alloc's choose, lines, in holes. Conditions: those that stand in each theorem.
-/
import Derived.Test.YthndilllnneijaaGreatPGJF
import Derived.Test.YthndilllnneijaaGreatPGJG
import Derived.Deep.RegionHeld3
set_option linter.unusedSimpArgs false
set_option linter.unusedVariables false
set_option maxRecDepth 100000
set_option maxHeartbeats 2000000
namespace Go.Proofs.YthndilllnneijaaGreat
open Go.RowKit Go.Deep Go.Maps
section
variable {w W V : World} {b : HB} {m : HM} {q g : Nat} {A : AS}
theorem choose_lines_hole (h : SH w b q m) (ha : AL w g b A) (hA : A.Ok) (n : Nat) (hn : n ≤ 1000) (h32 : ¬ 32 < n) (hpo : A.po = 4) (hfit : fitA (A.c, A.l) n = false) (h8 : ¬ 8 < n) :
   Calls Tryz.prog 110 #[.pointer (some ⟨g, 0, none⟩), .int .i64 (n : Int)] w fun e w' => e = .returned (.tuple #[.int .i64 (((m.holeA A.sp A.l).1 : Nat) : Int), .agg #[.int .i64 (((m.holeA A.sp A.l).1 + n : Nat) : Int), .int .i64 (((m.holeA A.sp A.l).2 : Nat) : Int), .int .i64 ((A.oc : Nat) : Int), .int .i64 ((A.ol : Nat) : Int)]]) ∧ Kp [] w w' := by
 have t : decide ((32 : Int) < (n : Int)) = false := decide_eq_false (by omega)
 have HPO := hid hpo
 have HC := hid (fun (W : World) (hs : SH W b q m) => a_lines_hole hs A.sp A.c A.l A.oc A.ol n (Nat.le_trans hA.c (by omega)) (Nat.le_trans hA.l (by omega)) (Nat.le_trans hA.oc (by omega)) (Nat.le_trans hA.ol (by omega)) (by omega) hfit h8)
 generalize (m.holeA A.sp A.l).1 + n = z1 at HC ⊢
 generalize (m.holeA A.sp A.l).2 = z2 at HC ⊢
 generalize (m.holeA A.sp A.l).1 = z0 at HC ⊢
 clear hfit h8
 clear h32
 have hgl : g < w.heap.size := Blk.lt ha
 obtain ⟨w0, hw0⟩ : ∃ w0, w0 = w.alloc (.cells #[.int .i64 0, .int .i64 0, .int .i64 0, .int .i64 0] 122) := ⟨_, rfl⟩
 have K0 : Kp [] w w0 := by rw [hw0]; exact Kp.new _ _
 have B5 : Blk w0 w.heap.size 122 #[.int .i64 0, .int .i64 0, .int .i64 0, .int .i64 0] := by rw [hw0]; exact Blk.new _ _ _
 obtain ⟨g5, hg5⟩ : ∃ z, z = w.heap.size := ⟨_, rfl⟩
 rw [← hg5] at B5
 have HU : Hid (CA w w0.drew b q m g A g5) := CA.step ⟨h.k0 K0, ha.kp K0 (by simp), B5, K0⟩ (Kp.draw _ 1)
 have k00 : w0.drew.cell? ⟨g, 0, none⟩ = some (.pointer (some ⟨b.g, 0, none⟩)) := HU.out.al.cell 0
 have k01 : w0.drew.cell? ⟨g, 1, none⟩ = some (.int .i64 (A.sp : Int)) := HU.out.al.cell 1
 have k02 : w0.drew.cell? ⟨g, 2, none⟩ = some (.int .i64 (4 : Int)) := HU.out.al.po_ hpo
 have k03 : w0.drew.cell? ⟨g, 3, none⟩ = some (.int .i64 (A.c : Int)) := HU.out.al.cell 3
 have k04 : w0.drew.cell? ⟨g, 4, none⟩ = some (.int .i64 (A.l : Int)) := HU.out.al.cell 4
 have k05 : w0.drew.cell? ⟨g, 5, none⟩ = some (.int .i64 (A.oc : Int)) := HU.out.al.cell 5
 have k06 : w0.drew.cell? ⟨g, 6, none⟩ = some (.int .i64 (A.ol : Int)) := HU.out.al.cell 6
 have HW := hid hw0
 have H5 := hid hg5
 have HLE : Hid (w.heap.size ≤ g5) := by show _ ≤ _; omega
 have hn5 : g5 ≠ g := by omega
 have hn6 : g ≠ g5 := by omega
 clear h K0 B5 hg5 ha hpo
 go_enter Tryz.func110, Tryz.ntmps110
 go_wp2
 rw [← HW.out, ← H5.out]
 clear H5 hw0
 refine wp_region_held_drew (S := fun W => AL W g b A) (by kernel_rfl) ?_ (fun hHeld => ?_)
 · exact HU.out.al
 refine tk0 1 rfl ?_
 refine tk0 2 rfl ?_
 refine tk0 3 rfl ?_
 refine tk 4 rfl (Or.inl ⟨by rfl, by (intro wz hSw; have cc2 := AL.po_ hSw HPO.out; go_simp; try with_reducible rfl)⟩) ?_
 refine tk0 7 rfl ?_
 refine tk0 8 rfl ?_
 refine tk0 9 rfl ?_
 refine tk 10 rfl (Or.inl ⟨by rfl, by (intro wz hSw; have cc0 : wz.cell? ⟨g, 0, none⟩ = some (.pointer (some ⟨b.g, 0, none⟩)) := hSw.cell 0; have cc1 : wz.cell? ⟨g, 1, none⟩ = some (.int .i64 (A.sp : Int)) := hSw.cell 1; go_simp; try with_reducible rfl)⟩) ?_
 refine tk0 11 rfl ?_
 refine tk0 12 rfl ?_
 refine tk0 13 rfl ?_
 refine tk 14 rfl (Or.inl ⟨by rfl, by (intro wz hSw; have cc3 : wz.cell? ⟨g, 3, none⟩ = some (.int .i64 (A.c : Int)) := hSw.cell 3; have cc4 : wz.cell? ⟨g, 4, none⟩ = some (.int .i64 (A.l : Int)) := hSw.cell 4; have cc5 : wz.cell? ⟨g, 5, none⟩ = some (.int .i64 (A.oc : Int)) := hSw.cell 5; have cc6 : wz.cell? ⟨g, 6, none⟩ = some (.int .i64 (A.ol : Int)) := hSw.cell 6; go_simp; try with_reducible rfl)⟩) ?_
 refine tk0 15 rfl ?_
 refine rd 0 rfl fun K hK => ?_
 go_simp
 (refine (a_policies _).mono ?_
  rintro e w5 ⟨rfl, hw5⟩
  have K5 : Kp [] w0.drew w5 := (by rw [hw5]; exact Kp.new _ _)
  have P5 := Blk.new w0.drew 164 polCells
  rw [← hw5] at P5
  have p5 : w5.cell? ⟨w0.heap.size, 4, none⟩ = some (.iface 159 (.agg #[])) := P5.cell 4
  have U1 := HU.out.step K5
  clear K5 hw5 P5)
 try go_wp2_with fail
 refine hK.out _ _ ?_ (fun hHeld => ?_)
 · exact U1.al
 clear hK K
 refine tk0 5 rfl ?_
 refine rd 6 rfl fun K hK => ?_
 go_simp
 refine hK.out _ _ ?_ (fun hHeld => ?_)
 · exact U1.al
 clear hK K
 refine tk0 16 rfl ?_
 refine tk0 17 rfl ?_
 refine rd 18 rfl fun K hK => ?_
 go_simp
 (refine (HC.out _ U1.sh).mono ?_
  rintro e w6 ⟨rfl, K6⟩
  have U2 := U1.step K6
  have y20 := U2.b5.cell 0; have z20 := U2.b5.frozen 0; have y21 := U2.b5.cell 1; have z21 := U2.b5.frozen 1; have y22 := U2.b5.cell 2; have z22 := U2.b5.frozen 2; have y23 := U2.b5.cell 3; have z23 := U2.b5.frozen 3
  clear K6)
 try go_wp2_with fail
 refine hK.out _ _ ?_ (fun hHeld => ?_)
 · exact U2.al
 clear hK K
 refine tk0 19 rfl ?_
 refine tk0 20 rfl ?_
 refine tk0 21 rfl ?_
 refine rd 22 rfl fun K hK => ?_
 go_simp
 refine hK.out _ _ ?_ (fun hHeld => ?_)
 · exact U2.al.kp (four_kp _ _ _ _ _ _) (by simpa using hn6)
 clear hK K
 refine wpAnyH_done (by kernel_rfl) ?_ _
 all_goals (
   go_wp2
   obtain ⟨q0, q1, q2, q3, K9⟩ := four_set U2.b5 HLE.out U2.kp (.int .i64 (z1 : Int)) (.int .i64 (z2 : Int)) (.int .i64 (A.oc : Int)) (.int .i64 (A.ol : Int))
   generalize ((((w6.setCell ⟨g5, 0, none⟩ (.int .i64 (z1 : Int))).setCell ⟨g5, 1, none⟩ (.int .i64 (z2 : Int))).setCell ⟨g5, 2, none⟩ (.int .i64 (A.oc : Int))).setCell ⟨g5, 3, none⟩ (.int .i64 (A.ol : Int))) = W9 at q0 q1 q2 q3 K9 ⊢
   refine bodyPost_ret (v := .tuple #[.int .i64 (z0 : Int), .agg #[.int .i64 (z1 : Int), .int .i64 (z2 : Int), .int .i64 (A.oc : Int), .int .i64 (A.ol : Int)]]) ?_ rfl ⟨rfl, K9⟩
   simp [results, Tryz.results110, q0, q1, q2, q3, go_sem])
end
theorem fits_iff {x y n : Nat} : fitA (x, y) n = true ↔ x + n ≤ y := by unfold fitA; simp
theorem fits_not {x y n : Nat} : fitA (x, y) n = false ↔ ¬ x + n ≤ y := by unfold fitA; simp
section
variable {w W V : World} {b : HB} {m : HM} {q g : Nat} {A : AS}
abbrev cuV (A : AS) : Value := .agg #[.int .i64 (A.c : Int), .int .i64 (A.l : Int), .int .i64 (A.oc : Int), .int .i64 (A.ol : Int)]
theorem a_choose (h : SH w b q m) (ha : AL w g b A) (hA : A.Ok) (n : Nat) (hn : n ≤ 1000) :
   Calls Tryz.prog 110 #[.pointer (some ⟨g, 0, none⟩), .int .i64 (n : Int)] w fun e w' => e = .returned (.tuple #[.int .i64 ((m.choose A n).1 : Int), cuV (m.choose A n).2]) ∧ Kp [] w w' := by
 by_cases h32 : 32 < n
 · have e : m.choose A n = (m.freeB ((n + 63) / 64), A) := by unfold HM.choose; rw [if_pos h32]
   rw [e]
   exact choose_large h ha hA n hn h32
 by_cases h0 : A.po = 0
 · have e : m.choose A n = (orN (m.lowG A.sp 0 n) (m.freeB 1), A) := by unfold HM.choose; rw [if_neg h32, if_pos h0]
   rw [e]
   exact choose_first h ha hA n hn h32 h0
 by_cases h1 : A.po = 1
 · have e : m.choose A n = (orN (m.leastG A.sp n) (m.freeB 1), A) := by unfold HM.choose; rw [if_neg h32, if_neg h0, if_pos h1]
   rw [e]
   exact choose_best h ha hA n hn h32 h1
 by_cases h2 : A.po = 2
 · have e : m.choose A n = (orN (orN (m.lowG A.sp A.c n) (m.lowG A.sp 0 n)) (m.freeB 1), { A with c := orN (orN (m.lowG A.sp A.c n) (m.lowG A.sp 0 n)) (m.freeB 1) + n }) := by unfold HM.choose; rw [if_neg h32, if_neg h0, if_neg h1, if_pos h2]
   rw [e]
   exact choose_next h ha hA n hn h32 h2
 by_cases h3 : A.po = 3
 · have e : m.choose A n = ((m.bumpA A.sp (A.c, A.l) n).1, { A with c := (m.bumpA A.sp (A.c, A.l) n).2.1, l := (m.bumpA A.sp (A.c, A.l) n).2.2 }) := by unfold HM.choose; rw [if_neg h32, if_neg h0, if_neg h1, if_neg h2, if_pos h3]
   rw [e]
   exact choose_bump h ha hA n hn h32 h3
 have h4 : A.po = 4 := by have := hA.po; omega
 by_cases hf : A.c + n ≤ A.l
 · have e : m.choose A n = ((m.bumpA A.sp (A.c, A.l) n).1, { A with c := (m.bumpA A.sp (A.c, A.l) n).2.1, l := (m.bumpA A.sp (A.c, A.l) n).2.2 }) := by unfold HM.choose; rw [if_neg h32, if_neg h0, if_neg h1, if_neg h2, if_neg h3, if_pos hf]
   rw [e]
   exact choose_lines_fit h ha hA n hn h32 h4 (fits_iff.2 hf)
 by_cases h8 : 8 < n
 · have e : m.choose A n = ((m.bumpA A.sp (A.oc, A.ol) n).1, { A with oc := (m.bumpA A.sp (A.oc, A.ol) n).2.1, ol := (m.bumpA A.sp (A.oc, A.ol) n).2.2 }) := by unfold HM.choose; rw [if_neg h32, if_neg h0, if_neg h1, if_neg h2, if_neg h3, if_neg hf, if_pos h8]
   rw [e]
   exact choose_lines_over h ha hA n hn h32 h4 (fits_not.2 hf) h8
 · have e : m.choose A n = ((takeA (m.holeA A.sp A.l) n).1, { A with c := (takeA (m.holeA A.sp A.l) n).2.1, l := (takeA (m.holeA A.sp A.l) n).2.2 }) := by unfold HM.choose; rw [if_neg h32, if_neg h0, if_neg h1, if_neg h2, if_neg h3, if_neg hf, if_neg h8]
   rw [e]
   exact choose_lines_hole h ha hA n hn h32 h4 (fits_not.2 hf) h8
theorem firstFit_end {xs : List (Nat × Nat)} {n B : Nat} (h : ∀ a ∈ xs, a.2 ≤ B) : firstFit xs n + n ≤ max B n := by
 unfold firstFit
 split
 · rename_i a ha
   have h1 := h _ (List.mem_of_find?_eq_some ha)
   have h2 := List.find?_some ha
   have h3 : a.1 + n ≤ a.2 := of_decide_eq_true h2
   omega
 · omega
theorem orN_end {a b n B : Nat} (ha : a + n ≤ B) (hb : b + n ≤ B) : orN a b + n ≤ B := by unfold orN; split <;> assumption
theorem lowG_end (I : m.Inv) (s f n : Nat) (hn : n ≤ 32) : m.lowG s f n + n ≤ 4128 := by
 have := firstFit_end (xs := m.ars s f) (n := n) (B := 4096) (fun a ha => (ars_bd I ha).2.1)
 unfold HM.lowG
 omega
theorem least_le {s n : Nat} : ∀ (xs : List (Nat × Nat)) (st : Nat × Nat), (∀ a ∈ xs, a.1 ≤ 4096) → st.1 ≤ 4096 → (xs.foldl (leastStep n) st).1 ≤ 4096 := by
 intro xs
 induction xs with
 | nil => intro st _ h; exact h
 | cons a xs ih =>
   intro st h1 h2
   refine ih _ (fun z hz => h1 z (List.mem_cons_of_mem _ hz)) ?_
   unfold leastStep
   split
   · exact h1 a List.mem_cons_self
   · exact h2
theorem leastG_le (I : m.Inv) (s n : Nat) : m.leastG s n ≤ 4096 := least_le (s := s) _ _ (fun a ha => by have := ars_bd I ha; omega) (by decide)
theorem bumpA_bd (I : m.Inv) {s x y n : Nat} (hx : x ≤ 8192) (hy : y ≤ 8192) (hn : n ≤ 32) : (m.bumpA s (x, y) n).1 ≤ 8192 ∧ (m.bumpA s (x, y) n).2.1 ≤ 8192 ∧ (m.bumpA s (x, y) n).2.2 ≤ 8192 := by
 have hf := freeB_le m 1 I
 unfold HM.bumpA
 split
 · rename_i h
   have := fits_iff.1 h
   split
   · unfold takeA; simp only; omega
   · simp only; omega
 · unfold takeA HM.freeA; simp only; omega
theorem choose_ok (I : m.Inv) (hA : A.Ok) (n : Nat) : (m.choose A n).1 ≤ 8192 ∧ (m.choose A n).2.Ok ∧ (m.choose A n).2.sp = A.sp ∧ (m.choose A n).2.po = A.po := by
 have hf := freeB_le m 1 I
 unfold HM.choose
 split
 · exact ⟨Nat.le_trans (freeB_le m _ I) (by omega), hA, rfl, rfl⟩
 rename_i h32
 have hn : n ≤ 32 := by omega
 split
 · exact ⟨orN_le (Nat.le_trans (lowG_le I _ _ _) (by omega)) (by omega), hA, rfl, rfl⟩
 split
 · exact ⟨orN_le (Nat.le_trans (leastG_le I _ _) (by omega)) (by omega), hA, rfl, rfl⟩
 split
 · have e1 := lowG_end I A.sp A.c n hn
   have e2 := lowG_end I A.sp 0 n hn
   have e3 := orN_end (orN_end e1 e2) (show m.freeB 1 + n ≤ 4128 by omega)
   exact ⟨by simp only; omega, ⟨hA.sp, hA.po, by simp only; omega, hA.l, hA.oc, hA.ol⟩, rfl, rfl⟩
 split
 · obtain ⟨b1, b2, b3⟩ := bumpA_bd I (s := A.sp) hA.c hA.l hn
   exact ⟨b1, ⟨hA.sp, hA.po, b2, b3, hA.oc, hA.ol⟩, rfl, rfl⟩
 split
 · obtain ⟨b1, b2, b3⟩ := bumpA_bd I (s := A.sp) hA.c hA.l hn
   exact ⟨b1, ⟨hA.sp, hA.po, b2, b3, hA.oc, hA.ol⟩, rfl, rfl⟩
 split
 · obtain ⟨b1, b2, b3⟩ := bumpA_bd I (s := A.sp) hA.oc hA.ol hn
   exact ⟨b1, ⟨hA.sp, hA.po, hA.c, hA.l, b2, b3⟩, rfl, rfl⟩
 · have hh : (m.holeA A.sp A.l).1 ≤ 4160 ∧ (m.holeA A.sp A.l).2 ≤ 8192 := by
     refine ⟨?_, (holeA_le I A.sp A.l).2⟩
     unfold HM.holeA
     split
     · rename_i a ha
       have hm := List.mem_of_find?_eq_some ha
       unfold holsL at hm
       obtain ⟨k, hk, hk2⟩ := List.mem_flatMap.1 hm
       have hkl := (mem_blkS.1 hk).1
       have := I.len64
       unfold holsAt at hk2
       obtain ⟨g, hg, rfl⟩ := List.mem_map.1 hk2
       have := holN_bd (m.lnL k) (m.lnL k).length g hg
       rw [lnL_length] at this
       unfold holeOf
       simp only
       omega
     · unfold HM.freeA; simp only; omega
   unfold takeA
   exact ⟨by simp only; omega, ⟨hA.sp, hA.po, by simp only; omega, by simp only; omega, hA.oc, hA.ol⟩, rfl, rfl⟩
end
structure CS (w W : World) (b : HB) (q : Nat) (m : HM) (g : Nat) (A : AS) (g3 : Nat) (x d k : Int) : Prop where
 sh : SH W b q m
 al : AL W g b A
 b3 : Blk W g3 33 #[.int .i64 x, .int .i64 d, .int .i64 k]
 kp : Kp (g :: b.all) w W
theorem cur_kp (W : World) (g : Nat) (x y z u : Value) : Kp [g] W ((((W.setCell ⟨g, 3, none⟩ x).setCell ⟨g, 4, none⟩ y).setCell ⟨g, 5, none⟩ z).setCell ⟨g, 6, none⟩ u) :=
 (((Kp.cell W ⟨g, 3, none⟩ x).trans (Kp.cell _ ⟨g, 4, none⟩ y) (U := [g]) (by simp) (by simp)).trans (Kp.cell _ ⟨g, 5, none⟩ z) (U := [g]) (by simp) (by simp)).trans (Kp.cell _ ⟨g, 6, none⟩ u) (U := [g]) (by simp) (by simp)
theorem AL.cur {W : World} {g : Nat} {b : HB} {A A2 : AS} (h : AL W g b A) (h1 : A2.sp = A.sp) (h2 : A2.po = A.po) : AL ((((W.setCell ⟨g, 3, none⟩ (.int .i64 (A2.c : Int))).setCell ⟨g, 4, none⟩ (.int .i64 (A2.l : Int))).setCell ⟨g, 5, none⟩ (.int .i64 (A2.oc : Int))).setCell ⟨g, 6, none⟩ (.int .i64 (A2.ol : Int))) g b A2 := by
 have := (((Blk.set_ h 3 (.int .i64 (A2.c : Int))).set_ 4 (.int .i64 (A2.l : Int))).set_ 5 (.int .i64 (A2.oc : Int))).set_ 6 (.int .i64 (A2.ol : Int))
 unfold AL alCells
 rw [h1, h2]
 exact this
section
variable {w W V : World} {b : HB} {m m' : HM} {q q' g g3 : Nat} {A : AS} {x d k : Int}
theorem CS.step (u : CS w W b q m g A g3 x d k) (K : Kp [] W V) : CS w V b q m g A g3 x d k := ⟨u.sh.k0 K, u.al.kp K (by simp), u.b3.kp K (by simp), u.kp.chain K⟩
theorem CS.heap (u : CS w W b q m g A g3 x d k) (hs : SH V b q' m') (K : Kp b.all W V) (hg : g ∉ b.all) (h3 : g3 ∉ b.all) : CS w V b q' m' g A g3 x d k :=
 ⟨hs, u.al.kp K hg, u.b3.kp K h3, u.kp.trans K (U := g :: b.all) (fun z hz => .inl hz) (fun z hz => .inl (List.mem_cons_of_mem _ hz))⟩
theorem a_alloc (h : SH w b q m) (ha : AL w g b A) (hA : A.Ok) (hg : g ∉ b.all) (x d k : Int) (hq : q ≤ 900000000) :
   Calls Tryz.prog 32 #[.pointer (some ⟨g, 0, none⟩), .agg #[.int .i64 x, .int .i64 d, .int .i64 k]] w fun e w' => e = .returned (.tuple #[.int .i64 (m.alV A x d k : Int), .int .i64 (m.alE A x d k)]) ∧ SH w' b (q + 1) (m.alM A x d k) ∧ AL w' g b (m.alA A x d k) ∧ Kp (g :: b.all) w w' := by
 have hsz := Blk.lt ha
 have hlt := h.lt
 have hI := h.inv
 have K0 := Kp.new w (.cells #[.int .i64 x, .int .i64 d, .int .i64 k] 33)
 have U0 : CS w _ b q m g A w.heap.size x d k := ⟨h.k0 K0, ha.kp K0 (by simp), Blk.new _ _ _, K0.mono (by simp)⟩
 have h3 : w.heap.size ∉ b.all := fun hm => Nat.lt_irrefl _ (hlt _ hm)
 have HU := hid U0
 have H3 := hid h3
 have HG := hid hg
 have HA := hid hA
 have t0 := U0.b3.cell 0
 have t1 := U0.b3.cell 1
 have t2 := U0.b3.cell 2
 have hn3 : w.heap.size ≠ g := by omega
 have hn4 : g ≠ w.heap.size := by omega
 have HSZ := hid hsz
 clear ha h K0 U0 h3 hg hlt hA
 rcases hv : vldB x d k
 · have e1 : m.alV A x d k = 0 := by unfold HM.alV; rw [hv]; rfl
   have e2 : m.alE A x d k = 2 := by unfold HM.alE; rw [hv]; rfl
   have e3 : m.alM A x d k = m := by unfold HM.alM; rw [e2]; rfl
   have e4 : m.alA A x d k = A := by unfold HM.alA; rw [e2]; rfl
   rw [e1, e2, e3, e4]
   have HV := hid hv
   clear hv e1 e2 e3 e4
   go_enter Tryz.func32, Tryz.ntmps32
   go_wp2_with (first
     | (go_at_call 99; refine (made_k HU.out.al).mono ?_; rintro e w1 ⟨rfl, K1⟩; have U1 := HU.out.step K1; have a0 := U1.b3.cell 0; have a1 := U1.b3.cell 1; have a2 := U1.b3.cell 2; clear K1)
     | (go_at_call 42; refine (h_valid x d k _).mono ?_; rintro e w2 ⟨rfl, K2⟩; rw [HV.out]; have U2 := U1.step K2; clear K2))
   go_ret2
   exact ⟨rfl, ⟨U2.sh.mono (by omega), U2.al, U2.kp⟩⟩
 · obtain ⟨r, dd, kk, rfl, rfl, rfl, hr, hd, hk⟩ := vldB_nat hv
   have hwd := wdN_bd hr hd
   have hww : wordsI (r : Int) (dd : Int) (kk : Int) = ((wdN r dd : Nat) : Int) := by simp [wordsI, hv]
   have hok := choose_ok hI HA.out (wdN r dd)
   obtain ⟨n, hn⟩ : ∃ n, wdN r dd = n := ⟨_, rfl⟩
   obtain ⟨ad, A2, hch⟩ : ∃ ad A2, m.choose A n = (ad, A2) := ⟨_, _, rfl⟩
   rw [hn] at hwd hww hok
   rw [hch] at hok
   simp only at hok
   have e1 : m.alV A r dd kk = ad := by unfold HM.alV; rw [hv]; simp only [if_true, Int.toNat_natCast, hn, hch]
   have e2 : m.alE A r dd kk = if ad = 0 then 6 else 0 := by unfold HM.alE; rw [hv]; simp only [if_true, Int.toNat_natCast, hn, hch]
   have HV := hid hv
   have HWW := hid hww
   have hcall := fun (W : World) (hs : SH W b q m) (hl : AL W g b A) => a_choose hs hl HA.out n (by omega)
   rw [hch] at hcall
   simp only at hcall
   have HC := hid hcall
   have HOK := hid hok
   have hn1000 : n ≤ 1000 := by omega
   have had : ad ≤ 8192 := hok.1
   by_cases h0 : ad = 0
   · have e3 : m.alM A r dd kk = m := by unfold HM.alM; rw [e2, if_pos h0]; rfl
     have e4 : m.alA A r dd kk = A := by unfold HM.alA; rw [e2, if_pos h0]; rfl
     rw [e1, e2, e3, e4, if_pos h0]
     subst h0
     clear e1 e2 e3 e4 hv hww hcall hch hwd hok hn hr hd hk
     go_enter Tryz.func32, Tryz.ntmps32
     go_wp2_with (first
       | (go_at_call 99; refine (made_k HU.out.al).mono ?_; rintro e w1 ⟨rfl, K1⟩; have U1 := HU.out.step K1; have a0 := U1.b3.cell 0; have a1 := U1.b3.cell 1; have a2 := U1.b3.cell 2; clear K1)
       | (go_at_call 42; refine (h_valid (r : Int) (dd : Int) (kk : Int) _).mono ?_; rintro e w2 ⟨rfl, K2⟩; rw [HV.out]; have U2 := U1.step K2; have b0 := U2.b3.cell 0; have b1 := U2.b3.cell 1; have b2 := U2.b3.cell 2; clear K2)
       | (go_at_call 37; refine (h_words (r : Int) (dd : Int) (kk : Int) _).mono ?_; rintro e w3 ⟨rfl, K3⟩; rw [HWW.out]; have U3 := U2.step K3; clear K3)
       | (go_at_call 110; refine (HC.out _ U3.sh U3.al).mono ?_; rintro e w4 ⟨rfl, K4⟩; have U5 := (U3.step K4).step (Kp.new w4 (.cells #[.int .i64 (A2.c : Int), .int .i64 (A2.l : Int), .int .i64 (A2.oc : Int), .int .i64 (A2.ol : Int)] 122)); have c0 := U5.al.cell 0; have c1 := U5.al.cell 1; have HB8 := hid (Blk.new w4 122 #[.int .i64 (A2.c : Int), .int .i64 (A2.l : Int), .int .i64 (A2.oc : Int), .int .i64 (A2.ol : Int)]); have H8 : Hid (w4.heap.size ∉ b.all) := (fun hm => Nat.lt_irrefl _ ((U3.step K4).sh.lt _ hm)); have H8g : Hid (w4.heap.size ≠ g) := (by have := Blk.lt (U3.step K4).al; show _ ≠ _; omega); clear K4))
     go_ret2
     exact ⟨rfl, ⟨U5.sh.mono (by omega), U5.al, U5.kp⟩⟩
   · have e3 : m.alM A r dd kk = (m.forM A.sp ad n).placeM (ad : Int) r dd kk := by unfold HM.alM; rw [e2, if_neg h0, if_pos rfl, e1]; simp only [Int.toNat_natCast]; rw [hn]
     have e4 : m.alA A r dd kk = A2 := by unfold HM.alA; rw [e2, if_neg h0, if_pos rfl]; simp only [Int.toNat_natCast]; rw [hn, hch]
     rw [e1, e2, e3, e4, if_neg h0]
     have hz : ((ad : Int) == 0) = false := beq_eq_false_iff_ne.2 (by omega)
     have H0 := hid h0
     have HW64 : Hid (W64 (ad : Int)) := ⟨by omega, by omega⟩
     clear e1 e2 e3 e4 hv hww hcall hch hwd hok hn hr hd hk h0
     go_enter Tryz.func32, Tryz.ntmps32
     go_wp2_with (first
       | (go_at_call 99; refine (made_k HU.out.al).mono ?_; rintro e w1 ⟨rfl, K1⟩; have U1 := HU.out.step K1; have a0 := U1.b3.cell 0; have a1 := U1.b3.cell 1; have a2 := U1.b3.cell 2; clear K1)
       | (go_at_call 42; refine (h_valid (r : Int) (dd : Int) (kk : Int) _).mono ?_; rintro e w2 ⟨rfl, K2⟩; rw [HV.out]; have U2 := U1.step K2; have b0 := U2.b3.cell 0; have b1 := U2.b3.cell 1; have b2 := U2.b3.cell 2; clear K2)
       | (go_at_call 37; refine (h_words (r : Int) (dd : Int) (kk : Int) _).mono ?_; rintro e w3 ⟨rfl, K3⟩; rw [HWW.out]; have U3 := U2.step K3; clear K3)
       | (go_at_call 110; refine (HC.out _ U3.sh U3.al).mono ?_; rintro e w4 ⟨rfl, K4⟩; have U5 := (U3.step K4).step (Kp.new w4 (.cells #[.int .i64 (A2.c : Int), .int .i64 (A2.l : Int), .int .i64 (A2.oc : Int), .int .i64 (A2.ol : Int)] 122)); have c0 := U5.al.cell 0; have c1 := U5.al.cell 1; have HB8 := hid (Blk.new w4 122 #[.int .i64 (A2.c : Int), .int .i64 (A2.l : Int), .int .i64 (A2.oc : Int), .int .i64 (A2.ol : Int)]); have H8 : Hid (w4.heap.size ∉ b.all) := (fun hm => Nat.lt_irrefl _ ((U3.step K4).sh.lt _ hm)); have H8g : Hid (w4.heap.size ≠ g) := (by have := Blk.lt (U3.step K4).al; show _ ≠ _; omega); clear K4)
       | (go_at_call 111; refine (a_claimFor U5.sh A.sp ad n (by omega) (by omega)).mono ?_; rintro e w6 ⟨rfl, S6, K6⟩; have U6 := U5.heap S6 K6 HG.out H3.out; have B6 := HB8.out.kp K6 H8.out; have HB6 := hid B6; clear S6 K6 B6))
     have U6d : CS w w6.drew b q (m.forM A.sp ad n) g A w.heap.size (r : Int) (dd : Int) (kk : Int) := U6.step (Kp.draw _ 1)
     have B6d : Blk w6.drew w4.heap.size 122 #[.int .i64 (A2.c : Int), .int .i64 (A2.l : Int), .int .i64 (A2.oc : Int), .int .i64 (A2.ol : Int)] := HB6.out.kp (Kp.draw _ 1) (by simp)
     have s0 : w6.drew.cell? ⟨g, 0, none⟩ = some (.pointer (some ⟨b.g, 0, none⟩)) := U6d.al.cell 0
     have s1 : w6.drew.cell? ⟨w.heap.size, 0, none⟩ = some (.int .i64 (r : Int)) := U6d.b3.cell 0
     have s2 : w6.drew.cell? ⟨w.heap.size, 1, none⟩ = some (.int .i64 (dd : Int)) := U6d.b3.cell 1
     have s3 : w6.drew.cell? ⟨w.heap.size, 2, none⟩ = some (.int .i64 (kk : Int)) := U6d.b3.cell 2
     have HB6d := hid B6d
     clear B6d
     go_region_held3 (fun W => W.cell? ⟨g, 0, none⟩ = some (.pointer (some ⟨b.g, 0, none⟩)) ∧ W.cell? ⟨w.heap.size, 0, none⟩ = some (.int .i64 (r : Int)) ∧ W.cell? ⟨w.heap.size, 1, none⟩ = some (.int .i64 (dd : Int)) ∧ W.cell? ⟨w.heap.size, 2, none⟩ = some (.int .i64 (kk : Int))) (go_keep)
       (first
         | (go_at_call 44; refine (h_place U6d.sh (ad : Int) (r : Int) (dd : Int) (kk : Int) HW64.out (by omega)).mono ?_; rintro e w7 ⟨rfl, S7, K7⟩; have U7 := U6d.heap S7 K7 HG.out H3.out; have B7 := HB6d.out.kp K7 H8.out; have v0 := U7.al.cell 0; have v1 := U7.b3.cell 0; have v2 := U7.b3.cell 1; have v3 := U7.b3.cell 2; have x0 := B7.cell 0; have x1 := B7.cell 1; have x2 := B7.cell 2; have x3 := B7.cell 3; have y0 := U7.al.cell 3; have y1 := U7.al.cell 4; have y2 := U7.al.cell 5; have y3 := U7.al.cell 6; have z0 := U7.al.frozen 3; have z1 := U7.al.frozen 4; have z2 := U7.al.frozen 5; have z3 := U7.al.frozen 6; clear S7 K7 B7))
     all_goals (
       go_wp2
       have KC := cur_kp w7 g (.int .i64 (A2.c : Int)) (.int .i64 (A2.l : Int)) (.int .i64 (A2.oc : Int)) (.int .i64 (A2.ol : Int))
       have hal : AL _ g b A2 := U7.al.cur HOK.out.2.2.1 HOK.out.2.2.2
       go_ret2
       exact ⟨rfl, U7.sh.kp KC (fun z hz hm => by rw [List.mem_singleton.1 hm] at hz; exact HG.out hz), hal, U7.kp.trans KC (U := g :: b.all) (fun z hz => .inl hz) (fun z hz => .inl (by rw [List.mem_singleton.1 hz]; exact List.mem_cons_self))⟩)
end
end Go.Proofs.YthndilllnneijaaGreat
