/-
  The contract of the document's heap's New. Conditions: those that stand in each theorem.
-/
import Derived.BigQuiet
import Derived.Deep.RegionHeld3
import Derived.Test.YthndilllnneijaaGreatPG9
import Derived.Test.YthndilllnneijaaGreatPG11
import Derived.Test.YthndilllnneijaaGreatPG6
import Derived.Shelf.SlMaps.Clone
import Derived.Test.YthndilllnneijaaGreatPG18
import Derived.Test.YthndilllnneijaaGreatPEe
set_option linter.unusedSimpArgs false
set_option linter.unusedVariables false
set_option maxRecDepth 100000
set_option maxHeartbeats 4000000
namespace Go.Proofs.YthndilllnneijaaGreat
open Go.RowKit Go.Deep Go.Maps
theorem infoBlockD : (Tryz.prog.info? 146).map (fun i => (i.zero, i.size, i.bytes)) = some (some (.agg #[.int .i64 0, .int .i64 0]), 2, 16) := by kernel_rfl
section
variable {w w' : World} {d : DB} {m : HM} {q : Nat}
theorem d_new_bad (n : Int) (w : World) (hn : ¬ (2 ≤ n ∧ n ≤ 64)) :
   Calls Tryz.prog 13 #[.int .i64 n] w fun e w' => e = .returned (.tuple #[.pointer none, .int .i64 1]) ∧ ∃ m, w' = w.drewN m := by
 by_cases h1 : n < 2
 · clear hn
   go_enter Tryz.func13, Tryz.ntmps13
   go_wp2
   go_ret2
   exact ⟨rfl, 0, rfl⟩
 · have h2 : 64 < n := by omega
   clear hn
   go_enter Tryz.func13, Tryz.ntmps13
   go_wp2
   go_ret2
   exact ⟨rfl, 0, rfl⟩
theorem d_new_ok (n : Nat) (w : World) (h1 : 2 ≤ n) (h2 : n ≤ 64) :
   Calls Tryz.prog 13 #[.int .i64 (n : Int)] w fun e w' => ∃ d : DB, e = .returned (.tuple #[.pointer (some ⟨d.g, 0, none⟩), .int .i64 0]) ∧ DR w' d 0 (HM.new n) ∧ Kp [] w w' ∧ ∀ x ∈ d.all, w.heap.size ≤ x := by
 obtain ⟨i0, hi0, hz0, hz1, hz2⟩ := info_parts infoBlockD
 have hmk1 : ∀ W : World, (Instr.makeSlice 97 (.int .i64 (n : Int)) (.int .i64 (n : Int))).run Tryz.prog W = .ok (.slice (some ⟨W.heap.size, 0, none⟩) n n) (W.alloc (.cells (madeCells #[.int .i64 0, .int .i64 0] (n * 2)) 146)) := fun W => by
   have := run_make_rowN (P := Tryz.prog) 97 146 i0 _ Tryz.underlying97 hi0 hz0 .i64 .i64 n n (Nat.le_refl _) (by rw [hz2]; omega) (by omega) W
   rw [hz1] at this
   exact this
 clear hi0 hz0 hz1 hz2
 go_enter Tryz.func13, Tryz.ntmps13
 go_wp2
 go_ret2
 have KN := (Kp.new w (.cells (madeCells #[.int .i64 0, .int .i64 0] (n * 2)) 146)).chain (Kp.new _ (.cells #[.slice (some ⟨w.heap.size, 0, none⟩) n n, .slice none 0 0, .slice none 0 0, .int .i64 0] 101))
 refine ⟨⟨w.heap.size + 1, w.heap.size, n, .slice none 0 0, .slice none 0 0, [], []⟩, by first | rfl | (simp; done), ⟨new_inv n h1 h2, ⟨List.Pairwise.nil, fun a o => by simp [HM.new]⟩, ⟨by simp, fun f t => by simp [HM.new], rfl⟩, ?_, Nat.le_refl _, Nat.le_refl _, ?_, ⟨[], ?_, ?_, ?_, ?_⟩, ⟨rfl, .inl ⟨rfl, rfl⟩⟩, ⟨rfl, .inl ⟨rfl, rfl⟩⟩, fun x hx => by cases hx⟩, KN, fun x hx => ?_⟩
 · simp [DB.all, Value.ownBlock, rowsOf]
 · have hB := Blk.new (w.alloc (.cells (madeCells #[.int .i64 0, .int .i64 0] (n * 2)) 146)) 101 #[.slice (some ⟨w.heap.size, 0, none⟩) n n, .slice none 0 0, .slice none 0 0, .int .i64 0]
   simpa [HM.new] using hB
 · simp [HM.new]
 · unfold maxLen; show n ≤ _; omega
 · rw [List.append_nil, bcells_length]; simp [HM.new]; omega
 · have hB := (Blk.new w 146 (madeCells #[.int .i64 0, .int .i64 0] (n * 2))).kp (Kp.new _ (.cells #[.slice (some ⟨w.heap.size, 0, none⟩) n n, .slice none 0 0, .slice none 0 0, .int .i64 0] 101)) (by simp)
   show Blk _ w.heap.size _ (bcells (List.replicate n (0, 0)) ++ []).toArray
   rw [← made_b]
   exact hB
 · simp [DB.all, Value.ownBlock, rowsOf] at hx
   omega
end
theorem own_form2 {w : World} {B : Nat} {e : TypeId} {v : Value} {n : Nat} {xs : List Value} (h : w.ownsRow B e 2 v n xs) (hn : 0 < n) :
   ∃ g c sp, v = .slice (some ⟨g, 0, none⟩) n c ∧ B ≤ g ∧ Blk w g e (xs ++ sp).toArray ∧ n ≤ c ∧ c ≤ maxLen ∧ (xs ++ sp).length = c * 2 := by
 obtain ⟨hl, h2 | ⟨g, cap, cur, hv, hg, hb, hnc, hcm, hsz, htk⟩⟩ := h
 · omega
 · refine ⟨g, cap, cur.toList.drop (n * 2), hv, hg, ?_, hnc, hcm, ?_⟩
   · rw [← htk, List.take_append_drop]
     exact hb
   · rw [← htk, List.take_append_drop]
     simpa using hsz
theorem own_empty2 (w : World) (t : TypeId) : (w.alloc (.cells #[] t)).ownsRow w.heap.size t 2 (.slice (some ⟨w.heap.size, 0, none⟩) 0 0) 0 [] :=
 ⟨rfl, .inr ⟨w.heap.size, 0, #[], rfl, Nat.le_refl _, Blk.new w t #[], Nat.le_refl _, Nat.zero_le _, rfl, rfl⟩⟩
theorem bcells_one {bl : List (Nat × Nat)} : ∀ u ∈ bcells bl, u.oneCell' = true := by
 intro u hu
 obtain ⟨x, _, hx⟩ := List.mem_flatMap.1 hu
 simp at hx
 rcases hx with rfl | rfl <;> rfl
def ClonedB (w : World) (bl : List (Nat × Nat)) (e : Ending) (w' : World) : Prop :=
 ∃ g c sp, e = .returned (.slice (some ⟨g, 0, none⟩) bl.length c) ∧ w.heap.size ≤ g ∧ Blk w' g 104 (bcells bl ++ sp).toArray ∧ bl.length ≤ c ∧ c ≤ maxLen ∧ (bcells bl ++ sp).length = c * 2 ∧ Kp [] w w'
theorem clone_blocks {w : World} {h c : Nat} {bl : List (Nat × Nat)} {sp : List Value} (b : Blk w h 104 (bcells bl ++ sp).toArray) (hn : 0 < bl.length) (hl : bl.length ≤ 64) :
   Calls Tryz.prog 56 #[.slice (some ⟨h, 0, none⟩) bl.length c] w (ClonedB w bl) := by
 obtain ⟨i0, hi0, hz0, hz1, hz2⟩ := info_parts infoBlock
 have HC : Hid (∀ j u, (bcells bl)[j]? = some u → (w.alloc (.cells #[] 104)).cell? ((⟨h, 0, none⟩ : Addr).add j) = some u) := fun j u hu => by
   have b2 := b.kp (Kp.new w (.cells #[] 104)) (by simp)
   exact blk_read b2 j u hu
 have hnil : ∀ W : World, (binOp .eql 93 (.slice (some ⟨h, 0, none⟩) bl.length c) (.slice none 0 0)).run Tryz.prog W = .ok (.bool false) W := fun W => Lib.run_eql_slice_nil W 93 104 (some ⟨h, 0, none⟩) bl.length c 0 0 Tryz.underlying93
 have hbl2 : (bcells bl).length = bl.length * 2 := bcells_length bl
 have HB2 := hid hbl2
 clear b hbl2
 go_enter Tryz.func56, Tryz.ntmps56
 go_wp2_with (at_builtin; (refine wpList_append_lies _ rfl (.tmp 5) (.tmp 6) 93 rfl w.heap.size 104 i0 (.agg #[.int .i64 0, .int .i64 0]) 2 16 Tryz.underlying93 hi0 hz0 hz1 hz2 rfl (by decide) (.slice (some ⟨w.heap.size, 0, none⟩) 0 0) 0 [] rfl (own_empty2 w 104) ⟨h, 0, none⟩ bl.length c (bcells bl) rfl HB2.out HC.out bcells_one hn (by unfold maxLen; omega) (by omega) (by simp) (w.heap.size + 1) (by simp) ?_); intro g cap w' hown hgr hat hlt)
 have HO := hid hown
 have HG := hid hgr
 clear hown hgr hnil
 go_wp2
 go_ret
 have hO := HO.out
 rw [Nat.zero_add, List.nil_append] at hO
 obtain ⟨g', c', sp', hv, hB, hb, h1, h2, h3⟩ := own_form2 hO hn
 injection hv with e1 e2 e3
 injection e1 with e1
 injection e1 with e1
 subst e1 e3
 refine ⟨g, cap, sp', by simp, hB, hb, h1, h2, h3, ?_⟩
 exact (Kp.new w _).trans (Kp.of_grown HG.out) (by simp) (by simp [Value.ownBlock])
section
variable {w w' W V : World} {b : HB} {r : RM} {m : HM} {q : Nat}
theorem clone_map {mb n : Nat} {D : DataW Unit} (own : w.ownsMap Tryz.prog 3 (plainElem Tryz.prog 3) mb n D) :
   Calls Tryz.prog 59 #[.map (some mb)] w fun e w' => ∃ g, e = .returned (.map (some g)) ∧ w.heap.size ≤ g ∧ w'.ownsMap Tryz.prog 3 (plainElem Tryz.prog 3) g n D ∧ Kp [] w w' := by
 obtain ⟨es, clock, hb, F, hs, hD⟩ := own
 have hq := fun w => run_eql_map_nil_sl (P := Tryz.prog) w 94 _ _ (some mb) Tryz.underlying94
 have HF := hid hs
 have HD := hid hD
 clear hs hD
 have hfn : Tryz.prog.funcs[131]? = some Tryz.f131 := by kernel_rfl
 have hcl : ∀ (W : World), W.heap[mb]? = some (.map es clock) → (callFunc 131 #[.iface 94 (.map (some mb))]).run Tryz.prog W = .ok (.value (.iface 94 (.map (some W.heap.size)))) (W.alloc (.map es clock)) := fun W hW => by
   rw [run_callFunc_extern hfn (by kernel_rfl) (by kernel_rfl) (by kernel_rfl) (e := Extern.MapsClone.clone) (by kernel_rfl), run_maps_clone_sl W 94 hW]
   rfl
 have HB := hid hb
 have HCL := hid hcl
 clear hb hcl hfn
 go_enter Tryz.func59, Tryz.ntmps59
 go_wp2
 rw [HCL.out _ HB.out]
 rw [Oper.upon_value]
 go_wp2
 rw [run_typeAssert_map_sl _ 94 20 _ _ _ Tryz.underlying94]
 simp only [Result.andThen]
 rw [Oper.upon_value]
 go_wp2
 go_ret
 exact ⟨w.heap.size, rfl, Nat.le_refl _, ⟨es, clock, (MapKept.heap_alloc w _).1, F, HF.out, HD.out⟩, Kp.new _ _⟩
def ClonedH (w : World) (b : HB) (q : Nat) (m : HM) (e : Ending) (w' : World) : Prop :=
 ∃ c : HB, e = .returned (.pointer (some ⟨c.g, 0, none⟩)) ∧ SH w' c q m ∧ Kp [] w w' ∧ ∀ x ∈ c.all, w.heap.size ≤ x
structure CL (w W : World) (b : HB) (r : RM) : Prop where
 raw : Raw W b r
 dr : Kp [] w W
theorem CL.stepK (u : CL w W b r) (k : Kp [] W V) : CL w V b r := ⟨u.raw.kp0 k, u.dr.chain k⟩
theorem ws_read (R : Raw W b r) : ∀ j, j < r.ws.length → W.cell? ⟨b.hw, 0 + j, none⟩ = some (.int .i64 (r.ws.getD j 0)) := fun j hj => by
 rw [Nat.zero_add]; exact R.word hj
theorem h_clone (h : SH w b q m) :
   Calls Tryz.prog 14 #[.pointer (some ⟨b.g, 0, none⟩)] w (ClonedH w b q m) := by
 have h0 := h
 obtain ⟨r, R, A, hq1, hq2⟩ := h
 have HA := hid A
 have HQ : Hid (r.q ≤ q ∧ r.born ≤ q) := ⟨hq1, hq2⟩
 have hbl2 := R.bl2
 have hbl64 := R.bl64
 have hwl := R.wl
 have hw1 : 0 < r.ws.length := by omega
 have hw2 : r.ws.length ≤ 4096 := by omega
 have hb1 : 0 < r.bl.length := by omega
 have HW : Hid (0 < r.ws.length ∧ r.ws.length ≤ 4096) := ⟨hw1, hw2⟩
 have HBL : Hid (0 < r.bl.length ∧ r.bl.length ≤ 64) := ⟨hb1, hbl64⟩
 have HR := hid R
 clear R A hq1 hq2 hbl2 hwl hw1 hw2 hb1 hbl64
 go_enter Tryz.func14, Tryz.ntmps14
 go_wp2_with (fail)
 refine h0.made.mono ?_
 rintro e w1 ⟨rfl, n1, rfl⟩
 have U9 : CL w (w.drewN n1).drew b r := ⟨(HR.out.drewN n1).drewN 1, Kp.draw w (n1 + 1)⟩
 have hW1 : (w.drewN n1).drew = (w.drewN n1).drew := rfl
 clear hW1
 revert U9
 generalize w.drewN n1 = W1
 intro U9
 have R9 := U9.raw
 have c0 := R9.c0
 have c1 := R9.c1
 have c2 := R9.c2
 have c3 := R9.c3
 have c4 := R9.c4
 have c5 := R9.c5
 have c6 := R9.c6
 clear R9
 go_wp2
 go_region_held3 (fun W => W.cell? ⟨b.g, 0, none⟩ = some (.slice (some ⟨b.hb, 0, none⟩) r.bl.length r.cb) ∧ W.cell? ⟨b.g, 1, none⟩ = some (.slice (some ⟨b.hw, 0, none⟩) r.ws.length r.cw) ∧ W.cell? ⟨b.g, 2, none⟩ = some (.pointer (some ⟨b.pg, 0, none⟩)) ∧ W.cell? ⟨b.g, 3, none⟩ = some (.pointer (some ⟨b.ng, 0, none⟩)) ∧ W.cell? ⟨b.g, 4, none⟩ = some (.map (some b.mp)) ∧ W.cell? ⟨b.g, 5, none⟩ = some (.map (some b.mf)) ∧ W.cell? ⟨b.g, 6, none⟩ = some (.int .i64 (r.born : Int))) (go_keep)
   (first
     | (go_at_call 56; refine (clone_blocks U9.raw.Bb HBL.out.1 HBL.out.2).mono ?_; rintro e w2 ⟨g2, k2, s2, rfl, N2, B2, x2, y2, z2, K2⟩; have U2 := U9.stepK K2; have HX2 := hid (And.intro N2 (And.intro B2 (And.intro x2 (And.intro y2 (And.intro z2 K2))))); have d0 := U2.raw.c0; have d1 := U2.raw.c1; have d2 := U2.raw.c2; have d3 := U2.raw.c3; have d4 := U2.raw.c4; have d5 := U2.raw.c5; have d6 := U2.raw.c6; clear N2 B2 x2 y2 z2 K2)
     | (go_at_call 57; refine (clone_ints (k := 0) HW.out.1 HW.out.2 U2.raw.Bw.lt (ws_read U2.raw)).mono ?_; rintro e w3 ⟨g3, k3, s3, rfl, N3, B3, x3, y3, z3, K3⟩; have U3 := U2.stepK K3; have HX3 := hid (And.intro N3 (And.intro B3 (And.intro x3 (And.intro y3 (And.intro z3 K3))))); have e0 := U3.raw.c0; have e1 := U3.raw.c1; have e2 := U3.raw.c2; have e3 := U3.raw.c3; have e4 := U3.raw.c4; have e5 := U3.raw.c5; have e6 := U3.raw.c6; clear N3 B3 x3 y3 z3 K3)
     | (go_at_call 58; refine (clone_any U4.raw.TN).mono ?_; rintro e w5 ⟨g5, h5, rfl, T5, K5, N5, M5⟩; have U5 := U4.stepK K5; have HX5 := hid (And.intro T5 (And.intro K5 (And.intro N5 M5))); have i0 := U5.raw.c0; have i1 := U5.raw.c1; have i2 := U5.raw.c2; have i3 := U5.raw.c3; have i4 := U5.raw.c4; have i5 := U5.raw.c5; have i6 := U5.raw.c6; clear T5 K5 N5 M5)
     | (go_at_call 58; refine (clone_any U3.raw.TP).mono ?_; rintro e w4 ⟨g4, h4, rfl, T4, K4, N4, M4⟩; have U4 := U3.stepK K4; have HX4 := hid (And.intro T4 (And.intro K4 (And.intro N4 M4))); have f0 := U4.raw.c0; have f1 := U4.raw.c1; have f2 := U4.raw.c2; have f3 := U4.raw.c3; have f4 := U4.raw.c4; have f5 := U4.raw.c5; have f6 := U4.raw.c6; clear T4 K4 N4 M4)
     | (go_at_call 59; refine (clone_map U6.raw.MF).mono ?_; rintro e w7 ⟨g7, rfl, N7, M7, K7⟩; have U7 := U6.stepK K7; have HX7 := hid (And.intro N7 (And.intro M7 K7)); have l0 := U7.raw.c0; have l1 := U7.raw.c1; have l2 := U7.raw.c2; have l3 := U7.raw.c3; have l4 := U7.raw.c4; have l5 := U7.raw.c5; have l6 := U7.raw.c6; clear N7 M7 K7)
     | (go_at_call 59; refine (clone_map U5.raw.MP).mono ?_; rintro e w6 ⟨g6, rfl, N6, M6, K6⟩; have U6 := U5.stepK K6; have HX6 := hid (And.intro N6 (And.intro M6 K6)); have j0 := U6.raw.c0; have j1 := U6.raw.c1; have j2 := U6.raw.c2; have j3 := U6.raw.c3; have j4 := U6.raw.c4; have j5 := U6.raw.c5; have j6 := U6.raw.c6; clear N6 M6 K6))
 go_wp2
 go_ret
 obtain ⟨N2, B2, x2, y2, z2, K2⟩ := HX2.out
 obtain ⟨N3, B3, x3, y3, z3, K3⟩ := HX3.out
 obtain ⟨T4, K4, N4, M4⟩ := HX4.out
 obtain ⟨T5, K5, N5, M5⟩ := HX5.out
 obtain ⟨N6, M6, K6⟩ := HX6.out
 obtain ⟨N7, M7, K7⟩ := HX7.out
 have k7 := U7.dr
 have w1s : w.heap.size ≤ W1.drew.heap.size := U9.dr.size
 have w2s : W1.drew.heap.size ≤ w2.heap.size := K2.size
 have w3s := K3.size
 have w4s := K4.size
 have w5s := K5.size
 have w6s := K6.size
 have w7s := K7.size
 have KN := Kp.new w7 (.cells #[.slice (some ⟨g2, 0, none⟩) r.bl.length k2, .slice (some ⟨g3, 0, none⟩) r.ws.length k3, .pointer (some ⟨g4, 0, none⟩), .pointer (some ⟨g5, 0, none⟩), .map (some g6), .map (some g7), .int .i64 (r.born : Int)] 96)
 have q7 := K7.chain KN
 have q6 := K6.chain q7
 have q5 := K5.chain q6
 have q4 := K4.chain q5
 have q3 := K3.chain q4
 have t4g := T4.g_lt
 have t4h := T4.h_lt
 have m6 := M6.lt
 refine ⟨⟨w7.heap.size, g2, g3, g4, h4, g5, h5, g6, g7⟩, rfl, ⟨{ r with cb := k2, spb := s2, cw := k3, spw := s3 }, ⟨x2, y2, show (bcells r.bl ++ s2).length = 2 * k2 from z2.trans (Nat.mul_comm _ _), x3, y3, z3, HR.out.bl2, HR.out.bl64, HR.out.wl, HR.out.pl, HR.out.nl, Blk.new w7 96 _, B2.kp q3 (by simp), B3.kp q4 (by simp), T4.kp q5 (by simp) (by simp), T5.kp q6 (by simp) (by simp), own_kp M6 q7 (by simp), own_kp M7 KN (by simp), ?_, ?_, ?_⟩, ⟨HA.out.inv, HA.out.bl, HA.out.born, HA.out.rep, HA.out.dp, HA.out.df, HA.out.fs⟩, HQ.out.1, HQ.out.2⟩, k7.chain KN, ?_⟩
 · show g4 ≠ g5; omega
 · show h4 ≠ h5; omega
 · show g6 ≠ g7; omega
 · intro x hx
   simp only [HB.all, List.mem_cons, List.not_mem_nil, or_false] at hx
   rcases hx with rfl | rfl | rfl | rfl | rfl | rfl | rfl | rfl | rfl <;> omega
end
def ClonedD (w : World) (p : Nat) (m : HM) (e : Ending) (w' : World) : Prop :=
 ∃ c : DB, e = .returned (.pointer (some ⟨c.g, 0, none⟩)) ∧ DR w' c p m ∧ Kp [] w w' ∧ ∀ x ∈ c.all, w.heap.size ≤ x
section
variable {w wr W W' : World} {b : HB} {d : DB} {q p : Nat} {m m' : HM}
end
end Go.Proofs.YthndilllnneijaaGreat
