/-
  The contract of package alloc's holeFrom. Conditions: those that stand in each theorem.
-/
import Derived.Test.YthndilllnneijaaGreatPGJD
set_option linter.unusedSimpArgs false
set_option linter.unusedVariables false
set_option maxRecDepth 100000
set_option maxHeartbeats 4000000
namespace Go.Proofs.YthndilllnneijaaGreat
open Go.RowKit Go.Deep Go.Maps Go.Shelf
attribute [local go_sem] Oper.semAt_some
theorem holsL_pre (m : HM) (s : Nat) {pre : List Nat} {k : Nat} (h : pre ++ [k] <+: blkS m s m.bl.length) (i : Nat) : pre.flatMap (holsAt m) ++ (holsAt m k).take i <+: holsL m s m.bl.length := by
 obtain ⟨t, ht⟩ := h
 unfold holsL
 rw [← ht, List.flatMap_append, List.flatMap_append]
 simp only [List.flatMap_cons, List.flatMap_nil, List.append_nil]
 rw [List.append_assoc]
 refine (List.prefix_append_right_inj _).2 ?_
 exact (List.take_prefix _ _).trans (List.prefix_append _ _)
theorem holeA_at {m : HM} {s f : Nat} {pre : List (Nat × Nat)} {a : Nat × Nat} (h : pre ++ [a] <+: holsL m s m.bl.length) (hno : ∀ x ∈ pre, x.1 < f) (ha : f ≤ a.1) : m.holeA s f = a := by
 obtain ⟨t, ht⟩ := h
 unfold HM.holeA
 rw [← ht, List.append_assoc, List.find?_append, List.find?_eq_none.2 (fun x hx => by have := hno x hx; simp; omega)]
 simp [ha]
theorem holeA_no {m : HM} {s f : Nat} (hno : ∀ x ∈ holsL m s m.bl.length, x.1 < f) : m.holeA s f = m.freeA := by
 unfold HM.holeA
 rw [List.find?_eq_none.2 (fun x hx => by have := hno x hx; simp; omega)]
theorem lnL_length (m : HM) (k : Nat) : (m.lnL k).length = 8 := lnN_length _ _ _
theorem boolsAt_of {w : World} {g : Nat} {L : List Bool} {n : Nat} (hb : Blk w g 4 (lcells L).toArray) (hn : L.length = n) : LinesAt w (.slice (some ⟨g, 0, none⟩) n n) L := by
 subst hn
 exact ⟨_, _, rfl, fun i hi => ⟨g, rfl, by rw [hb.cell]; exact lcells_get hi⟩⟩
section
variable {w W V : World} {b : HB} {m : HM} {q : Nat}
theorem a_holeFrom (h : SH w b q m) (s f : Nat) (hf : f ≤ 10000) :
   Calls Tryz.prog 224 #[.agg #[.pointer (some ⟨b.g, 0, none⟩), .int .i64 (s : Int)], .int .i64 (f : Int)] w fun e w' => e = .returned (.agg #[.int .i64 ((m.holeA s f).1 : Int), .int .i64 ((m.holeA s f).2 : Int)]) ∧ Kp [] w w' := by
 have HINV := hid h.inv
 have HLT := hid h.lt
 have HSH := hid h
 obtain ⟨ha, hha⟩ : ∃ x, m.holeA s f = x := ⟨_, rfl⟩
 rw [hha]
 have HHA := hid hha
 clear h hha
 refine (callsIn_wide (n := 3)).1 ?_
 refine callsIn_of_wp_marks Tryz.func224 rfl trivial ?_ rfl
 simp only [Tryz.ntmps224, List.size_toArray, List.length_cons, List.length_nil, Nat.reduceAdd, Nat.reduceSub, Array.replicate_succ, Array.replicate_zero, List.push_toArray, List.append_toArray, List.nil_append, List.cons_append]
 gi_wp2
 obtain ⟨w0, hw0⟩ : ∃ w0, w0 = (((w.alloc (.cells #[.pointer (some ⟨b.g, 0, none⟩), .int .i64 (s : Int)] 118)).alloc (.cells #[.int .i64 (f : Int)] 3)).alloc (.cells #[.int .i64 0, .int .i64 0] 120)) := ⟨_, rfl⟩
 have hsz : w0.heap.size = w.heap.size + 3 := by rw [hw0]; simp
 have K0 : Kp [] w w0 := by rw [hw0]; exact ((Kp.new _ _).chain (Kp.new _ _)).chain (Kp.new _ _)
 have hbl : ∀ x ∈ b.all, x < w.heap.size + 3 := fun x hx => by have := HLT.out x hx; omega
 have B2 : Blk w0 w.heap.size 118 #[.pointer (some ⟨b.g, 0, none⟩), .int .i64 (s : Int)] := by
   rw [hw0]
   have := ((Blk.new w 118 #[.pointer (some ⟨b.g, 0, none⟩), .int .i64 (s : Int)]).kp (Kp.new _ (.cells #[.int .i64 (f : Int)] 3)) (by simp)).kp (Kp.new _ (.cells #[.int .i64 0, .int .i64 0] 120)) (by simp)
   simpa using this
 have B3 : Blk w0 (w.heap.size + 1) 3 #[.int .i64 (f : Int)] := by
   rw [hw0]
   have := (Blk.new (w.alloc (.cells #[.pointer (some ⟨b.g, 0, none⟩), .int .i64 (s : Int)] 118)) 3 #[.int .i64 (f : Int)]).kp (Kp.new _ (.cells #[.int .i64 0, .int .i64 0] 120)) (by simp)
   simpa using this
 have B4 : Blk w0 (w.heap.size + 1 + 1) 120 #[.int .i64 0, .int .i64 0] := by
   rw [hw0]
   have := Blk.new ((w.alloc (.cells #[.pointer (some ⟨b.g, 0, none⟩), .int .i64 (s : Int)] 118)).alloc (.cells #[.int .i64 (f : Int)] 3)) 120 #[.int .i64 0, .int .i64 0]
   simpa using this
 rw [← hw0]
 obtain ⟨R, hR⟩ : ∃ R : List Nat → World → Prop, R = fun pre W => SH W b q m ∧ (Blk W w.heap.size 118 #[.pointer (some ⟨b.g, 0, none⟩), .int .i64 (s : Int)] ∧ (Blk W (w.heap.size + 1) 3 #[.int .i64 (f : Int)] ∧ (Blk W (w.heap.size + 1 + 1) 120 #[.int .i64 0, .int .i64 0] ∧ (∀ a ∈ pre.flatMap (holsAt m), a.1 < f)))) := ⟨_, rfl⟩
 have HRD := hid hR
 have hLR : ∀ pre, Low (w.heap.size + 3) (R pre) := fun pre => by rw [hR]; exact (Low.sh hbl _ _).and ((Low.blk (by omega) _ _).and ((Low.blk (by omega) _ _).and ((Low.blk (by omega) _ _).and (Low.pure _ _))))
 have hLX : Low (w.heap.size + 3) (fun W => Blk W (w.heap.size + 1 + 1) 120 #[.int .i64 (ha.1 : Int), .int .i64 (ha.2 : Int)]) := Low.blk (by omega) _ _
 have hR0 : R [] w0 := by rw [hR]; exact ⟨HSH.out.k0 K0, B2, B3, B4, by simp⟩
 have HLR := hid hLR
 have HLX := hid hLX
 have HR0 := hid hR0
 have HK0 := hid K0
 have HSZ := hid hsz
 have HW5 : Hid (w.heap.size ≤ w.heap.size + 3) := by show _ ≤ _; omega
 clear hw0 hsz K0 hbl B2 B3 B4 hR hLR hLX hR0
 refine range_yields rfl (by omega) (gf := 210) (cv := #[.agg #[.pointer (some ⟨b.g, 0, none⟩), .int .i64 (s : Int)]]) (lb := #[]) rfl trivial (enters_of Tryz.func210 (by kernel_rfl) rfl)
   (blocks_yields s) (fun _ => rfl)
   (fun pre S W => OL w (w.heap.size + 3) (R pre) S W)
   (fun c pre S W => c = .ret ∧ OL w (w.heap.size + 3) (fun W => Blk W (w.heap.size + 1 + 1) 120 #[.int .i64 (ha.1 : Int), .int .i64 (ha.2 : Int)]) S W)
   (fun pre S W h => by have := h.r; rw [HRD.out] at this; exact this.1)
   (fun pre S W W' h K => h.bears (HLR.out _) HW5.out K)
   (fun c pre S W W' h K => ⟨h.1, h.2.bears HLX.out HW5.out K⟩)
   (fun pre S W o o' h _ _ => h.put (HLR.out _) HW5.out _ (by rw [HSZ.out]; omega) _)
   (fun c pre S W o o' h _ _ => ⟨h.1, h.2.put HLX.out HW5.out _ (by rw [HSZ.out]; omega) _⟩)
   (fun o o' _ _ => OL.start (HLR.out _) HSZ.out HR0.out HK0.out o o')
   (fun x a' W => a' = { tmps := #[.agg #[.pointer (some ⟨b.g, 0, none⟩), .int .i64 (s : Int)], .int .i64 (f : Int), .pointer (some ⟨w.heap.size, 0, none⟩), .pointer (some ⟨w.heap.size + 1, 0, none⟩), .pointer (some ⟨w.heap.size + 1 + 1, 0, none⟩), .int .i64 (x : Int), undef, undef, undef, .agg #[.pointer (some ⟨b.g, 0, none⟩), .int .i64 (s : Int)], .func (.func 210) #[.agg #[.pointer (some ⟨b.g, 0, none⟩), .int .i64 (s : Int)]] #[], .int .i64 (x : Int), undef, undef, undef, undef, undef, undef, undef, undef, undef, undef, undef, undef, undef, undef, undef, undef, undef, undef, undef, undef, undef, undef, undef, undef, undef, undef, undef, undef, undef], defers := [] })
   (fun x a' W o o' h ho hc => h) ?assign ?body ?done ?stop
 case assign =>
   intro l' pre x S W K hI hK
   have HK := hid hK
   have HI := hid hI
   clear hK hI
   gi_wp2
   exact HK.out _ _ (KpS.refl _ _) (KpS.refl _ _) HI.out rfl
 case body =>
   rintro l' pre k S a' W hI rfl hpre
   have hk : ownS m s k = true := (mem_blkS.1 (hpre.subset (by simp) : k ∈ blkS m s m.bl.length)).2
   have hkl := ownS_lt hk
   have hk64 : k < 64 := by have := HINV.out.len64; omega
   have hst : m.st k = 1 := (of_decide_eq_true hk).1
   have hrr := hI.r
   rw [HRD.out] at hrr
   obtain ⟨hsh, b2, b3, b4, hno⟩ := hrr
   have c0 := b2.cell 0
   have HI := hid hI
   have HNO := hid hno
   have HPRE := hid (holsL_pre m s hpre)
   have HB3 := hid b3
   have HB4 := hid b4
   have HLN := hid (h_lines hsh k hkl hst)
   have HMAP : Hid (∀ j, j < (holL (m.lnL k)).length → (holsAt m k).take (j + 1) = (holsAt m k).take j ++ [holeOf k ((holL (m.lnL k)).getD j (0, 0))]) := fun j hj => by
     show ((holL (m.lnL k)).map (holeOf k)).take (j + 1) = ((holL (m.lnL k)).map (holeOf k)).take j ++ _
     rw [List.take_succ_eq_append_getElem (by simpa using hj), List.getElem_map, List.getD_eq_getElem?_getD, List.getElem?_eq_getElem hj]
     rfl
   have HLEN : Hid ((holsAt m k).take (holL (m.lnL k)).length = holsAt m k) := by
     show _ = _
     rw [List.take_of_length_le]; unfold holsAt; simp
   have HBD : Hid (∀ j, j < (holL (m.lnL k)).length → ((holL (m.lnL k)).getD j (0, 0)).1 + ((holL (m.lnL k)).getD j (0, 0)).2 ≤ 8) := fun j hj => by
     have := holN_bd (m.lnL k) (m.lnL k).length ((holL (m.lnL k)).getD j (0, 0)) (by rw [List.getD_eq_getElem?_getD, List.getElem?_eq_getElem hj]; exact List.getElem_mem _)
     rw [lnL_length] at this
     exact this.1
   have hhl : (holL (m.lnL k)).length ≤ 8 := by have := holN_len (m.lnL k) (m.lnL k).length; rw [lnL_length] at this; unfold holL; rw [lnL_length]; exact this
   clear hI hno hpre b2 b3 b4 hk hst hkl hsh
   gi_wp2
   refine ⟨trivial, ?_⟩
   refine ((callsIn_wide.2 HLN.out).inRound l').mono ?_
   rintro e w5 ⟨gl, rfl, hbl, hgl, K5⟩
   have HBO := hid (boolsAt_of hbl (lnL_length m k))
   have HK5 := hid K5
   clear hbl hgl K5 c0 HLN
   gi_wp2
   refine ⟨trivial, ?_⟩
   refine ((callsIn_wide.2 (a_holes HBO.out (by rw [lnL_length]; omega))).inRound l').mono ?_
   rintro e w6 ⟨v, rfl, own, bel⟩
   have HK6 := hid (HK5.out.chain (Kp.of_below bel))
   have HRU := hid (RunsAt.of_own own)
   obtain ⟨A, cap, rfl, _⟩ := HRU.out
   generalize hgs : holL (m.lnL k) = gs at hhl HMAP HLEN HBD HRU ⊢
   clear own bel hgs HBO HK5
   gi_wp2
   gi_loopw [18] (fun c wr => ∃ j : Nat, j ≤ gs.length ∧ c = .int .i64 (j : Int) ∧ (∀ a ∈ pre.flatMap (holsAt m) ++ (holsAt m k).take j, a.1 < f) ∧ Kp [] w6 wr) (fun c _ => gs.length - (intOf c).toNat)
   case atStart => exact ⟨0, by omega, rfl, by simpa using HNO.out, Kp.refl _ _⟩
   case round =>
     obtain ⟨j, hj, rfl, hnj, hK6⟩ := hrel
     have HNJ := hid hnj
     have HR9 := runsK HRU.out hK6
     have H6 := hid hK6
     have hK := HK6.out.chain hK6
     have HK := hid hK
     clear hK6
     by_cases hlt : j < gs.length
     · obtain ⟨A', cap', e1, hA⟩ := HR9
       injection e1 with e1 e2 e3
       subst e1
       obtain ⟨g, rfl, g1, g2⟩ := hA j hlt
       have hbd := HBD.out j hlt
       have hmap := HMAP.out j hlt
       obtain ⟨x, y, hxy⟩ : ∃ x y, gs.getD j (0, 0) = (x, y) := ⟨_, _, rfl⟩
       rw [hxy] at g1 g2 hbd hmap
       simp only at g1 g2 hbd
       have hx8 : x ≤ 8 := by omega
       have hy8 : y ≤ 8 := by omega
       have KA := Kp.new wr (.cells #[.int .i64 (x : Int), .int .i64 (y : Int)] 76)
       have HKA := hid (hK.chain KA)
       have HKB := hid (H6.out.chain KA)
       have BX := Blk.new wr 76 #[.int .i64 (x : Int), .int .i64 (y : Int)]
       have x0 := BX.cell 0
       have x1 := BX.cell 1
       have d0 := (HB3.out.kp HKA.out (by simp)).cell 0
       have B4' := HB4.out.kp HKA.out (by simp)
       have e0 := B4'.cell 0
       have e1 := B4'.cell 1
       have f0 := B4'.frozen 0
       have f1 := B4'.frozen 1
       have HB4' := hid B4'
       have HMP := hid hmap
       clear hA e2 e3 hnj hK hbd hxy KA BX B4' hmap
       by_cases hge : f ≤ k * 64 + x * 8
       · have t : decide ((f : Int) ≤ (k : Int) * 64 + (x : Int) * 8) = true := decide_eq_true (by omega)
         have HGE := hid hge
         clear hge
         gi_wp2
         have hpp := HPRE.out (j + 1)
         rw [HMP.out, ← List.append_assoc] at hpp
         have hhh := holeA_at hpp HNJ.out (by unfold holeOf; exact HGE.out)
         rw [HHA.out] at hhh
         have b9 := (HB4'.out.set_ 0 (.int .i64 ((k : Int) * 64 + (x : Int) * 8))).set_ 1 (.int .i64 ((k : Int) * 64 + (x : Int) * 8 + (y : Int) * 8))
         have k1 := Kp.cell (wr.alloc (.cells #[.int .i64 (x : Int), .int .i64 (y : Int)] 76)) ⟨w.heap.size + 1 + 1, 0, none⟩ (.int .i64 ((k : Int) * 64 + (x : Int) * 8))
         have k2 := Kp.cell ((wr.alloc (.cells #[.int .i64 (x : Int), .int .i64 (y : Int)] 76)).setCell ⟨w.heap.size + 1 + 1, 0, none⟩ (.int .i64 ((k : Int) * 64 + (x : Int) * 8))) ⟨w.heap.size + 1 + 1, 1, none⟩ (.int .i64 ((k : Int) * 64 + (x : Int) * 8 + (y : Int) * 8))
         have KC : Kp [w.heap.size + 1 + 1] W _ := (HKA.out.chain0 k1).trans k2 (fun z hz => .inl (by rcases List.mem_singleton.1 hz with rfl; simp)) (fun z hz => .inl (by rcases List.mem_singleton.1 hz with rfl; simp))
         have hks := HI.out.kps KC (by simp)
         refine ⟨by rw [HSZ.out]; exact hks.1, hks.2, rfl, HI.out.to KC (by simp; omega) ?_⟩
         have q1 : (ha.1 : Int) = (k : Int) * 64 + (x : Int) * 8 := by rw [hhh]; unfold holeOf; simp only; omega
         have q2 : (ha.2 : Int) = (k : Int) * 64 + (x : Int) * 8 + (y : Int) * 8 := by rw [hhh]; unfold holeOf; simp only; omega
         rw [q1, q2]
         exact b9
       · have t : decide ((f : Int) ≤ (k : Int) * 64 + (x : Int) * 8) = false := decide_eq_false (by omega)
         have HGE := hid hge
         clear hge
         gi_wp2
         go_roundw
         case rel =>
           refine ⟨j + 1, by omega, by go_num, ?_, HKB.out⟩
           rw [HMP.out, ← List.append_assoc]
           intro a ha2
           rcases List.mem_append.1 ha2 with h1 | h1
           · exact HNJ.out a h1
           · simp only [List.mem_singleton] at h1
             rw [h1]
             have := HGE.out
             unfold holeOf
             simp only
             omega
         case measure => simp [intOf]; omega
     · obtain ⟨j9, rfl⟩ : ∃ x, x = j := ⟨_, rfl⟩
       have hje : j9 = gs.length := by omega
       subst hje
       clear hnj hK HR9
       gi_wp2
       have hks := HI.out.kps HK.out (by simp)
       refine ⟨by rw [HSZ.out]; exact hks.1, hks.2, HI.out.to (R' := R (pre ++ [k])) HK.out (by simp) ?_⟩
       have hr := HI.out.step (HLR.out _) HK.out |>.r
       rw [HRD.out] at hr ⊢
       refine ⟨hr.1, hr.2.1, hr.2.2.1, hr.2.2.2.1, ?_⟩
       have hq := HNJ.out
       rw [HLEN.out] at hq
       rw [List.flatMap_append]
       simpa using hq
 case done =>
   rintro D S W rfl hI hDK
   have hrr := hI.r
   rw [HRD.out] at hrr
   obtain ⟨hsh, b2, b3, b4, hno⟩ := hrr
   have HI := hid hI
   have c0 := b2.cell 0
   have c1 := b2.cell 1
   have HB4 := hid b4
   have HFB := hid (a_freeBlock hsh s)
   have HAF : Hid (ha = m.freeA) := by show _ = _; rw [← HHA.out]; exact holeA_no hno
   clear hI hno b2 b3 b4 hsh
   gi_wp2
   refine ⟨trivial, ?_⟩
   refine (callsIn_wide.2 HFB.out).mono ?_
   rintro e w5 ⟨rfl, K5⟩
   rw [← HAF.out]
   have B4 := HB4.out.kp K5 (by simp)
   have e0 := B4.cell 0
   have e1 := B4.cell 1
   have f0 := B4.frozen 0
   have f1 := B4.frozen 1
   have HB5 := hid B4
   have HK5 := hid K5
   have hD5 := (K5.block _ (Array.getElem?_eq_some_iff.1 hDK).1 (by simp)).trans hDK
   clear K5 B4
   gi_wp2
   have b9 := (HB5.out.set_ 0 (.int .i64 (ha.1 : Int))).set_ 1 (.int .i64 (ha.2 : Int))
   have k1 := Kp.cell w5 ⟨w.heap.size + 1 + 1, 0, none⟩ (.int .i64 (ha.1 : Int))
   have k2 := Kp.cell (w5.setCell ⟨w.heap.size + 1 + 1, 0, none⟩ (.int .i64 (ha.1 : Int))) ⟨w.heap.size + 1 + 1, 1, none⟩ (.int .i64 (ha.2 : Int))
   have KC : Kp [w.heap.size + 1 + 1] w5 _ := k1.trans k2 (fun z hz => .inl (by rcases List.mem_singleton.1 hz with rfl; simp)) (fun z hz => .inl (by rcases List.mem_singleton.1 hz with rfl; simp))
   have K7 : Kp [] w _ := (HI.out.kp.chain HK5.out).trans KC (U := []) (by simp) (fun z hz => .inr (by simp at hz; omega))
   have hD9 := (KC.block w0.heap.size (Array.getElem?_eq_some_iff.1 hD5).1 (by have := HSZ.out; simp; omega)).trans hD5
   generalize ((w5.setCell ⟨w.heap.size + 1 + 1, 0, none⟩ (.int .i64 (ha.1 : Int))).setCell ⟨w.heap.size + 1 + 1, 1, none⟩ (.int .i64 (ha.2 : Int))) = w7 at b9 K7 hD9 ⊢
   refine ⟨by simp, .inl ⟨_, _, rfl, run_takeDeferred hD9, ?_⟩⟩
   have B9 := b9.kp (Kp.putAt w7 w0.heap.size (.deferred none)) (by have := HSZ.out; simp; omega)
   have K9 := K7.trans (Kp.putAt w7 w0.heap.size (.deferred none)) (U := []) (by simp) (fun x hx => .inr (by have := HSZ.out; simp at hx; omega))
   generalize w7.putObj w0.heap.size (.deferred none) = W9 at B9 K9 ⊢
   have q0 : W9.cell? ⟨w.heap.size + 1 + 1, 0, none⟩ = some (.int .i64 (ha.1 : Int)) := B9.cell 0
   have q1 : W9.cell? ⟨w.heap.size + 1 + 1, 1, none⟩ = some (.int .i64 (ha.2 : Int)) := B9.cell 1
   refine ⟨.agg #[.int .i64 (ha.1 : Int), .int .i64 (ha.2 : Int)], ?_, rfl, K9⟩
   simp [results, Tryz.results224, q0, q1, go_sem]
 case stop =>
   rintro D c pre S W rfl hpre ⟨rfl, h⟩ hDK
   have HH := hid h
   clear h
   gi_wp2
   refine ⟨by simp, .inl ⟨_, _, rfl, run_takeDeferred hDK, ?_⟩⟩
   have B9 := HH.out.r.kp (Kp.putAt W w0.heap.size (.deferred none)) (by have := HSZ.out; simp; omega)
   have K9 := HH.out.kp.trans (Kp.putAt W w0.heap.size (.deferred none)) (U := []) (by simp) (fun x hx => .inr (by have := HSZ.out; simp at hx; omega))
   generalize W.putObj w0.heap.size (.deferred none) = W9 at B9 K9 ⊢
   have q0 : W9.cell? ⟨w.heap.size + 1 + 1, 0, none⟩ = some (.int .i64 (ha.1 : Int)) := B9.cell 0
   have q1 : W9.cell? ⟨w.heap.size + 1 + 1, 1, none⟩ = some (.int .i64 (ha.2 : Int)) := B9.cell 1
   refine ⟨.agg #[.int .i64 (ha.1 : Int), .int .i64 (ha.2 : Int)], ?_, rfl, K9⟩
   simp [results, Tryz.results224, q0, q1, go_sem]
end
def orL : List Nat → Nat
 | [] => 0
 | x :: l => orN x (orL l)
def NatsAt (w : World) (v : Value) (zs : List Nat) : Prop := ∃ A cap, v = .slice A zs.length cap ∧ ∀ i, i < zs.length → ∃ g, A = some ⟨g, 0, none⟩ ∧ w.cell? ⟨g, i, none⟩ = some (.int .i64 (zs.getD i 0 : Int))
theorem NatsAt.kp0 {w W : World} {v : Value} {zs : List Nat} (h : NatsAt w v zs) (k : Kp [] w W) : NatsAt W v zs := by
 obtain ⟨A, cap, rfl, hA⟩ := h
 exact ⟨A, cap, rfl, fun i hi => by obtain ⟨g, h1, h2⟩ := hA i hi; exact ⟨g, h1, cell_kp k h2⟩⟩
theorem orL_drop0 {zs : List Nat} {j : Nat} (hj : j < zs.length) (h : zs.getD j 0 = 0) : orL (zs.drop j) = orL (zs.drop (j + 1)) := by
 rw [List.drop_eq_getElem_cons hj]
 have : zs[j] = 0 := by rw [List.getD_eq_getElem?_getD, List.getElem?_eq_getElem hj] at h; exact h
 show orN zs[j] _ = _
 rw [this]; rfl
theorem orL_drop1 {zs : List Nat} {j : Nat} (hj : j < zs.length) (h : zs.getD j 0 ≠ 0) : orL (zs.drop j) = zs.getD j 0 := by
 rw [List.drop_eq_getElem_cons hj]
 have e : zs.getD j 0 = zs[j] := by rw [List.getD_eq_getElem?_getD, List.getElem?_eq_getElem hj]; rfl
 show orN zs[j] _ = _
 rw [← e]
 unfold orN
 rw [if_neg h]
section
variable {w W V : World} {b : HB} {m : HM} {q : Nat}
theorem a_or {v : Value} {zs : List Nat} (h : NatsAt w v zs) (hl : zs.length ≤ 100) :
   Calls Tryz.prog 206 #[v] w fun e w' => e = .returned (.int .i64 (orL zs : Int)) ∧ Kp [] w w' := by
 have h0 := h
 obtain ⟨A, cap, rfl, _⟩ := h
 have HL := hid h0
 clear h0
 go_enter Tryz.func206, Tryz.ntmps206
 go_wp2
 go_loopw [8] (fun c wr => ∃ j : Nat, j ≤ zs.length ∧ c = .int .i64 (j : Int) ∧ orL zs = orL (zs.drop j) ∧ Kp [] w wr) (fun c _ => zs.length - (intOf c).toNat)
 case atStart => exact ⟨0, by omega, rfl, rfl, Kp.refl _ _⟩
 case round =>
   obtain ⟨j, hj, rfl, ho, hK⟩ := hrel
   have HK := hid hK
   have HO := hid ho
   have R := HL.out.kp0 hK
   clear hK ho
   by_cases hlt : j < zs.length
   · obtain ⟨A', cap', e1, hA⟩ := R
     injection e1 with e1 e2 e3
     subst e1
     obtain ⟨g, rfl, g1⟩ := hA j hlt
     have h1 := fun h => orL_drop0 (zs := zs) hlt h
     have h2 := fun h => orL_drop1 (zs := zs) hlt h
     generalize zs.getD j 0 = z at g1 h1 h2
     by_cases hz : z = 0
     · have t : ((z : Int) != 0) = false := by simp [hz]
       have HS := hid (h1 hz)
       clear hA e2 e3 h1 h2 hz
       go_wp2
       go_roundw
       case rel => exact ⟨j + 1, by omega, by go_num, by rw [HO.out, HS.out], HK.out⟩
       case measure => simp [intOf]; omega
     · have t : ((z : Int) != 0) = true := bne_iff_ne.2 (by omega)
       have HS := hid (h2 hz)
       clear hA e2 e3 h1 h2 hz
       go_wp2
       go_ret
       rw [HO.out, HS.out]
       exact ⟨rfl, HK.out⟩
   · obtain rfl : j = zs.length := by omega
     clear R
     go_wp2
     go_ret
     rw [HO.out, List.drop_length]
     exact ⟨rfl, HK.out⟩
end
theorem or2 (x y : Nat) : orN x y = orL [x, y] := by
 show _ = orN x (orN y 0)
 unfold orN
 by_cases hy : y = 0
 · subst hy; rfl
 · rw [if_neg hy]
theorem nats2 (w : World) (x y : Nat) : NatsAt (w.alloc (.cells #[.int .i64 (x : Int), .int .i64 (y : Int)] 3)) (.slice (some ⟨w.heap.size, 0, none⟩) 2 2) [x, y] := by
 refine ⟨_, _, rfl, fun i hi => ⟨w.heap.size, rfl, ?_⟩⟩
 have hB := Blk.new w 3 #[.int .i64 (x : Int), .int .i64 (y : Int)]
 simp only [List.length_cons, List.length_nil] at hi
 rcases i with _ | _ | i
 · exact hB.cell 0
 · exact hB.cell 1
 · omega
theorem nats3 (w : World) (x y z : Nat) : NatsAt (w.alloc (.cells #[.int .i64 (x : Int), .int .i64 (y : Int), .int .i64 (z : Int)] 3)) (.slice (some ⟨w.heap.size, 0, none⟩) 3 3) [x, y, z] := by
 refine ⟨_, _, rfl, fun i hi => ⟨w.heap.size, rfl, ?_⟩⟩
 have hB := Blk.new w 3 #[.int .i64 (x : Int), .int .i64 (y : Int), .int .i64 (z : Int)]
 simp only [List.length_cons, List.length_nil] at hi
 rcases i with _ | _ | _ | i
 · exact hB.cell 0
 · exact hB.cell 1
 · exact hB.cell 2
 · omega
theorem four_set {w W : World} {g : Nat} {t : TypeId} {a b c d : Value} (B : Blk W g t #[a, b, c, d]) (hg : w.heap.size ≤ g) (K : Kp [] w W) (x y z u : Value) :
   ((((W.setCell ⟨g, 0, none⟩ x).setCell ⟨g, 1, none⟩ y).setCell ⟨g, 2, none⟩ z).setCell ⟨g, 3, none⟩ u).cell? ⟨g, 0, none⟩ = some x ∧ ((((W.setCell ⟨g, 0, none⟩ x).setCell ⟨g, 1, none⟩ y).setCell ⟨g, 2, none⟩ z).setCell ⟨g, 3, none⟩ u).cell? ⟨g, 1, none⟩ = some y ∧
   ((((W.setCell ⟨g, 0, none⟩ x).setCell ⟨g, 1, none⟩ y).setCell ⟨g, 2, none⟩ z).setCell ⟨g, 3, none⟩ u).cell? ⟨g, 2, none⟩ = some z ∧ ((((W.setCell ⟨g, 0, none⟩ x).setCell ⟨g, 1, none⟩ y).setCell ⟨g, 2, none⟩ z).setCell ⟨g, 3, none⟩ u).cell? ⟨g, 3, none⟩ = some u ∧
   Kp [] w ((((W.setCell ⟨g, 0, none⟩ x).setCell ⟨g, 1, none⟩ y).setCell ⟨g, 2, none⟩ z).setCell ⟨g, 3, none⟩ u) := by
 have B9 := (((B.set_ 0 x).set_ 1 y).set_ 2 z).set_ 3 u
 exact ⟨B9.cell 0, B9.cell 1, B9.cell 2, B9.cell 3, (((K.trans (Kp.cell _ ⟨g, 0, none⟩ x) (U := []) (by simp) (by simp; omega)).trans (Kp.cell _ ⟨g, 1, none⟩ y) (U := []) (by simp) (by simp; omega)).trans (Kp.cell _ ⟨g, 2, none⟩ z) (U := []) (by simp) (by simp; omega)).trans (Kp.cell _ ⟨g, 3, none⟩ u) (U := []) (by simp) (by simp; omega)⟩
structure CH (w W : World) (b : HB) (q : Nat) (m : HM) (g5 g6 g9 s x y ox oy : Nat) : Prop where
 sh : SH W b q m
 b5 : Blk W g5 118 #[.pointer (some ⟨b.g, 0, none⟩), .int .i64 (s : Int)]
 b6 : Blk W g6 122 #[.int .i64 (x : Int), .int .i64 (y : Int), .int .i64 (ox : Int), .int .i64 (oy : Int)]
 b9 : Blk W g9 122 #[.int .i64 0, .int .i64 0, .int .i64 0, .int .i64 0]
 kp : Kp [] w W
section
variable {w W V : World} {b : HB} {m : HM} {q g5 g6 g9 s x y ox oy : Nat}
theorem CH.step (u : CH w W b q m g5 g6 g9 s x y ox oy) (K : Kp [] W V) : CH w V b q m g5 g6 g9 s x y ox oy := ⟨u.sh.k0 K, u.b5.kp K (by simp), u.b6.kp K (by simp), u.b9.kp K (by simp), u.kp.chain K⟩
theorem CH.r0 (u : CH w W b q m g5 g6 g9 s x y ox oy) : W.cell? ⟨g5, 0, none⟩ = some (.pointer (some ⟨b.g, 0, none⟩)) := u.b5.cell 0
theorem CH.r1 (u : CH w W b q m g5 g6 g9 s x y ox oy) : W.cell? ⟨g5, 1, none⟩ = some (.int .i64 (s : Int)) := u.b5.cell 1
theorem CH.c0 (u : CH w W b q m g5 g6 g9 s x y ox oy) : W.cell? ⟨g6, 0, none⟩ = some (.int .i64 (x : Int)) := u.b6.cell 0
theorem CH.c1 (u : CH w W b q m g5 g6 g9 s x y ox oy) : W.cell? ⟨g6, 1, none⟩ = some (.int .i64 (y : Int)) := u.b6.cell 1
theorem CH.c2 (u : CH w W b q m g5 g6 g9 s x y ox oy) : W.cell? ⟨g6, 2, none⟩ = some (.int .i64 (ox : Int)) := u.b6.cell 2
theorem CH.c3 (u : CH w W b q m g5 g6 g9 s x y ox oy) : W.cell? ⟨g6, 3, none⟩ = some (.int .i64 (oy : Int)) := u.b6.cell 3
theorem a_first (h : SH w b q m) (s x y ox oy n : Nat) (hn : n ≤ 10000) :
   Calls Tryz.prog 205 #[.agg #[], .agg #[.pointer (some ⟨b.g, 0, none⟩), .int .i64 (s : Int)], .agg #[.int .i64 (x : Int), .int .i64 (y : Int), .int .i64 (ox : Int), .int .i64 (oy : Int)], .int .i64 (n : Int)] w fun e w' => e = .returned (.tuple #[.int .i64 ((orN (m.lowG s 0 n) (m.freeB 1)) : Nat), .agg #[.int .i64 (x : Int), .int .i64 (y : Int), .int .i64 (ox : Int), .int .i64 (oy : Int)]]) ∧ Kp [] w w' := by
 have HSH := hid h
 have HV : Hid ((orN (m.lowG s 0 n) (m.freeB 1)) = orL [m.lowG s 0 n, m.freeB 1]) := by exact or2 _ _
 rw [HV.out]
 obtain ⟨g1, hg1⟩ : ∃ z, m.lowG s 0 n = z := ⟨_, rfl⟩
 obtain ⟨g2, hg2⟩ : ∃ z, m.freeB 1 = z := ⟨_, rfl⟩
 rw [hg1, hg2]
 have HG1 := hid hg1
 have HG2 := hid hg2
 obtain ⟨w0, hw0⟩ : ∃ w0, w0 = ((((w.alloc (.cells #[] 155)).alloc (.cells #[.pointer (some ⟨b.g, 0, none⟩), .int .i64 (s : Int)] 118)).alloc (.cells #[.int .i64 (x : Int), .int .i64 (y : Int), .int .i64 (ox : Int), .int .i64 (oy : Int)] 122)).alloc (.cells #[.int .i64 0, .int .i64 0, .int .i64 0, .int .i64 0] 122)) := ⟨_, rfl⟩
 have K0 : Kp [] w w0 := by rw [hw0]; exact (((Kp.new _ _).chain (Kp.new _ _)).chain (Kp.new _ _)).chain (Kp.new _ _)
 have B5 : Blk w0 (w.heap.size + 1) 118 #[.pointer (some ⟨b.g, 0, none⟩), .int .i64 (s : Int)] := by
   rw [hw0]
   have := ((Blk.new (w.alloc (.cells #[] 155)) 118 #[.pointer (some ⟨b.g, 0, none⟩), .int .i64 (s : Int)]).kp (Kp.new _ (.cells #[.int .i64 (x : Int), .int .i64 (y : Int), .int .i64 (ox : Int), .int .i64 (oy : Int)] 122)) (by simp)).kp (Kp.new _ (.cells #[.int .i64 0, .int .i64 0, .int .i64 0, .int .i64 0] 122)) (by simp)
   simpa using this
 have B6 : Blk w0 (w.heap.size + 1 + 1) 122 #[.int .i64 (x : Int), .int .i64 (y : Int), .int .i64 (ox : Int), .int .i64 (oy : Int)] := by
   rw [hw0]
   have := (Blk.new ((w.alloc (.cells #[] 155)).alloc (.cells #[.pointer (some ⟨b.g, 0, none⟩), .int .i64 (s : Int)] 118)) 122 #[.int .i64 (x : Int), .int .i64 (y : Int), .int .i64 (ox : Int), .int .i64 (oy : Int)]).kp (Kp.new _ (.cells #[.int .i64 0, .int .i64 0, .int .i64 0, .int .i64 0] 122)) (by simp)
   simpa using this
 have B9 : Blk w0 (w.heap.size + 1 + 1 + 1) 122 #[.int .i64 0, .int .i64 0, .int .i64 0, .int .i64 0] := by
   rw [hw0]
   have := Blk.new (((w.alloc (.cells #[] 155)).alloc (.cells #[.pointer (some ⟨b.g, 0, none⟩), .int .i64 (s : Int)] 118)).alloc (.cells #[.int .i64 (x : Int), .int .i64 (y : Int), .int .i64 (ox : Int), .int .i64 (oy : Int)] 122)) 122 #[.int .i64 0, .int .i64 0, .int .i64 0, .int .i64 0]
   simpa using this
 obtain ⟨g5, hg5⟩ : ∃ z, z = w.heap.size + 1 := ⟨_, rfl⟩
 obtain ⟨g6, hg6⟩ : ∃ z, z = w.heap.size + 1 + 1 := ⟨_, rfl⟩
 obtain ⟨g9, hg9⟩ : ∃ z, z = w.heap.size + 1 + 1 + 1 := ⟨_, rfl⟩
 rw [← hg5] at B5
 rw [← hg6] at B6
 rw [← hg9] at B9
 have U0 : CH w w0 b q m g5 g6 g9 s x y ox oy := ⟨h.k0 K0, B5, B6, B9, K0⟩
 have HU : Hid (CH w w0.drew b q m g5 g6 g9 s x y ox oy) := U0.step (Kp.draw _ 1)
 have t0 : w0.drew.cell? ⟨g5, 0, none⟩ = some (.pointer (some ⟨b.g, 0, none⟩)) := HU.out.r0
 have t1 : w0.drew.cell? ⟨g5, 1, none⟩ = some (.int .i64 (s : Int)) := HU.out.r1
 have t2 : w0.drew.cell? ⟨g6, 0, none⟩ = some (.int .i64 (x : Int)) := HU.out.c0
 have t3 : w0.drew.cell? ⟨g6, 1, none⟩ = some (.int .i64 (y : Int)) := HU.out.c1
 have t4 : w0.drew.cell? ⟨g6, 2, none⟩ = some (.int .i64 (ox : Int)) := HU.out.c2
 have t5 : w0.drew.cell? ⟨g6, 3, none⟩ = some (.int .i64 (oy : Int)) := HU.out.c3
 have HW := hid hw0
 have H5 := hid hg5
 have H6 := hid hg6
 have H9 := hid hg9
 have HLE : Hid (w.heap.size ≤ g9) := by show _ ≤ _; omega
 have hn5 : g5 ≠ g9 := by omega
 have hn6 : g6 ≠ g9 := by omega
 have hn7 : g9 ≠ g5 := by omega
 have hn8 : g9 ≠ g6 := by omega
 clear h hg1 hg2 K0 B5 B6 B9 U0 hg5 hg6 hg9
 go_enter Tryz.func205, Tryz.ntmps205
 go_wp2
 rw [← HW.out, ← H9.out, ← H6.out, ← H5.out]
 clear H5 H6 H9 hw0
 go_region_held3 (fun W => W.cell? ⟨g5, 0, none⟩ = some (.pointer (some ⟨b.g, 0, none⟩)) ∧ W.cell? ⟨g5, 1, none⟩ = some (.int .i64 (s : Int)) ∧ W.cell? ⟨g6, 0, none⟩ = some (.int .i64 (x : Int)) ∧ W.cell? ⟨g6, 1, none⟩ = some (.int .i64 (y : Int)) ∧ W.cell? ⟨g6, 2, none⟩ = some (.int .i64 (ox : Int)) ∧ W.cell? ⟨g6, 3, none⟩ = some (.int .i64 (oy : Int))) (go_keep)
   (first
     | (go_at_call 207; refine (a_lowestGap HU.out.sh s 0 n (by omega) hn).mono ?_; rintro e w5 ⟨rfl, K5⟩; rw [HG1.out]; have U1 := HU.out.step K5; have u0 := U1.r0; have u1 := U1.r1; have u2 := U1.c0; have u3 := U1.c1; have u4 := U1.c2; have u5 := U1.c3; clear K5)
     | (go_at_call 172; refine (a_free U1.sh s 1 (by omega) (by omega)).mono ?_; rintro e w6 ⟨rfl, K6⟩; rw [HG2.out]; have U2 := U1.step K6; have v0 := U2.r0; have v1 := U2.r1; have v2 := U2.c0; have v3 := U2.c1; have v4 := U2.c2; have v5 := U2.c3; clear K6)
     | (go_at_call 206; refine (a_or (zs := [g1, g2]) (nats2 w6 g1 g2) (by simp)).mono ?_; rintro e w7 ⟨rfl, K7⟩; have U3 := U2.step ((Kp.new _ _).chain K7); have x0 := U3.r0; have x1 := U3.r1; have x2 := U3.c0; have x3 := U3.c1; have x4 := U3.c2; have x5 := U3.c3; have y0 := U3.b9.cell 0; have y1 := U3.b9.cell 1; have y2 := U3.b9.cell 2; have y3 := U3.b9.cell 3; have z0 := U3.b9.frozen 0; have z1 := U3.b9.frozen 1; have z2 := U3.b9.frozen 2; have z3 := U3.b9.frozen 3; clear K7))
 all_goals (
   go_wp2
   obtain ⟨q0, q1, q2, q3, K9⟩ := four_set U3.b9 HLE.out U3.kp (.int .i64 (x : Int)) (.int .i64 (y : Int)) (.int .i64 (ox : Int)) (.int .i64 (oy : Int))
   generalize ((((w7.setCell ⟨g9, 0, none⟩ (.int .i64 (x : Int))).setCell ⟨g9, 1, none⟩ (.int .i64 (y : Int))).setCell ⟨g9, 2, none⟩ (.int .i64 (ox : Int))).setCell ⟨g9, 3, none⟩ (.int .i64 (oy : Int))) = W9 at q0 q1 q2 q3 K9 ⊢
   refine bodyPost_ret (v := .tuple #[.int .i64 (orL [g1, g2] : Nat), .agg #[.int .i64 (x : Int), .int .i64 (y : Int), .int .i64 (ox : Int), .int .i64 (oy : Int)]]) ?_ rfl ⟨rfl, K9⟩
   simp [results, Tryz.results205, q0, q1, q2, q3, go_sem])
theorem a_best (h : SH w b q m) (s x y ox oy n : Nat) (hn : n ≤ 10000) :
   Calls Tryz.prog 212 #[.agg #[], .agg #[.pointer (some ⟨b.g, 0, none⟩), .int .i64 (s : Int)], .agg #[.int .i64 (x : Int), .int .i64 (y : Int), .int .i64 (ox : Int), .int .i64 (oy : Int)], .int .i64 (n : Int)] w fun e w' => e = .returned (.tuple #[.int .i64 ((orN (m.leastG s n) (m.freeB 1)) : Nat), .agg #[.int .i64 (x : Int), .int .i64 (y : Int), .int .i64 (ox : Int), .int .i64 (oy : Int)]]) ∧ Kp [] w w' := by
 have HSH := hid h
 have HV : Hid ((orN (m.leastG s n) (m.freeB 1)) = orL [m.leastG s n, m.freeB 1]) := by exact or2 _ _
 rw [HV.out]
 obtain ⟨g1, hg1⟩ : ∃ z, m.leastG s n = z := ⟨_, rfl⟩
 obtain ⟨g2, hg2⟩ : ∃ z, m.freeB 1 = z := ⟨_, rfl⟩
 rw [hg1, hg2]
 have HG1 := hid hg1
 have HG2 := hid hg2
 obtain ⟨w0, hw0⟩ : ∃ w0, w0 = ((((w.alloc (.cells #[] 156)).alloc (.cells #[.pointer (some ⟨b.g, 0, none⟩), .int .i64 (s : Int)] 118)).alloc (.cells #[.int .i64 (x : Int), .int .i64 (y : Int), .int .i64 (ox : Int), .int .i64 (oy : Int)] 122)).alloc (.cells #[.int .i64 0, .int .i64 0, .int .i64 0, .int .i64 0] 122)) := ⟨_, rfl⟩
 have K0 : Kp [] w w0 := by rw [hw0]; exact (((Kp.new _ _).chain (Kp.new _ _)).chain (Kp.new _ _)).chain (Kp.new _ _)
 have B5 : Blk w0 (w.heap.size + 1) 118 #[.pointer (some ⟨b.g, 0, none⟩), .int .i64 (s : Int)] := by
   rw [hw0]
   have := ((Blk.new (w.alloc (.cells #[] 156)) 118 #[.pointer (some ⟨b.g, 0, none⟩), .int .i64 (s : Int)]).kp (Kp.new _ (.cells #[.int .i64 (x : Int), .int .i64 (y : Int), .int .i64 (ox : Int), .int .i64 (oy : Int)] 122)) (by simp)).kp (Kp.new _ (.cells #[.int .i64 0, .int .i64 0, .int .i64 0, .int .i64 0] 122)) (by simp)
   simpa using this
 have B6 : Blk w0 (w.heap.size + 1 + 1) 122 #[.int .i64 (x : Int), .int .i64 (y : Int), .int .i64 (ox : Int), .int .i64 (oy : Int)] := by
   rw [hw0]
   have := (Blk.new ((w.alloc (.cells #[] 156)).alloc (.cells #[.pointer (some ⟨b.g, 0, none⟩), .int .i64 (s : Int)] 118)) 122 #[.int .i64 (x : Int), .int .i64 (y : Int), .int .i64 (ox : Int), .int .i64 (oy : Int)]).kp (Kp.new _ (.cells #[.int .i64 0, .int .i64 0, .int .i64 0, .int .i64 0] 122)) (by simp)
   simpa using this
 have B9 : Blk w0 (w.heap.size + 1 + 1 + 1) 122 #[.int .i64 0, .int .i64 0, .int .i64 0, .int .i64 0] := by
   rw [hw0]
   have := Blk.new (((w.alloc (.cells #[] 156)).alloc (.cells #[.pointer (some ⟨b.g, 0, none⟩), .int .i64 (s : Int)] 118)).alloc (.cells #[.int .i64 (x : Int), .int .i64 (y : Int), .int .i64 (ox : Int), .int .i64 (oy : Int)] 122)) 122 #[.int .i64 0, .int .i64 0, .int .i64 0, .int .i64 0]
   simpa using this
 obtain ⟨g5, hg5⟩ : ∃ z, z = w.heap.size + 1 := ⟨_, rfl⟩
 obtain ⟨g6, hg6⟩ : ∃ z, z = w.heap.size + 1 + 1 := ⟨_, rfl⟩
 obtain ⟨g9, hg9⟩ : ∃ z, z = w.heap.size + 1 + 1 + 1 := ⟨_, rfl⟩
 rw [← hg5] at B5
 rw [← hg6] at B6
 rw [← hg9] at B9
 have U0 : CH w w0 b q m g5 g6 g9 s x y ox oy := ⟨h.k0 K0, B5, B6, B9, K0⟩
 have HU : Hid (CH w w0.drew b q m g5 g6 g9 s x y ox oy) := U0.step (Kp.draw _ 1)
 have t0 : w0.drew.cell? ⟨g5, 0, none⟩ = some (.pointer (some ⟨b.g, 0, none⟩)) := HU.out.r0
 have t1 : w0.drew.cell? ⟨g5, 1, none⟩ = some (.int .i64 (s : Int)) := HU.out.r1
 have t2 : w0.drew.cell? ⟨g6, 0, none⟩ = some (.int .i64 (x : Int)) := HU.out.c0
 have t3 : w0.drew.cell? ⟨g6, 1, none⟩ = some (.int .i64 (y : Int)) := HU.out.c1
 have t4 : w0.drew.cell? ⟨g6, 2, none⟩ = some (.int .i64 (ox : Int)) := HU.out.c2
 have t5 : w0.drew.cell? ⟨g6, 3, none⟩ = some (.int .i64 (oy : Int)) := HU.out.c3
 have HW := hid hw0
 have H5 := hid hg5
 have H6 := hid hg6
 have H9 := hid hg9
 have HLE : Hid (w.heap.size ≤ g9) := by show _ ≤ _; omega
 have hn5 : g5 ≠ g9 := by omega
 have hn6 : g6 ≠ g9 := by omega
 have hn7 : g9 ≠ g5 := by omega
 have hn8 : g9 ≠ g6 := by omega
 clear h hg1 hg2 K0 B5 B6 B9 U0 hg5 hg6 hg9
 go_enter Tryz.func212, Tryz.ntmps212
 go_wp2
 rw [← HW.out, ← H9.out, ← H6.out, ← H5.out]
 clear H5 H6 H9 hw0
 go_region_held3 (fun W => W.cell? ⟨g5, 0, none⟩ = some (.pointer (some ⟨b.g, 0, none⟩)) ∧ W.cell? ⟨g5, 1, none⟩ = some (.int .i64 (s : Int)) ∧ W.cell? ⟨g6, 0, none⟩ = some (.int .i64 (x : Int)) ∧ W.cell? ⟨g6, 1, none⟩ = some (.int .i64 (y : Int)) ∧ W.cell? ⟨g6, 2, none⟩ = some (.int .i64 (ox : Int)) ∧ W.cell? ⟨g6, 3, none⟩ = some (.int .i64 (oy : Int))) (go_keep)
   (first
     | (go_at_call 213; refine (a_leastGap HU.out.sh s n hn).mono ?_; rintro e w5 ⟨rfl, K5⟩; rw [HG1.out]; have U1 := HU.out.step K5; have u0 := U1.r0; have u1 := U1.r1; have u2 := U1.c0; have u3 := U1.c1; have u4 := U1.c2; have u5 := U1.c3; clear K5)
     | (go_at_call 172; refine (a_free U1.sh s 1 (by omega) (by omega)).mono ?_; rintro e w6 ⟨rfl, K6⟩; rw [HG2.out]; have U2 := U1.step K6; have v0 := U2.r0; have v1 := U2.r1; have v2 := U2.c0; have v3 := U2.c1; have v4 := U2.c2; have v5 := U2.c3; clear K6)
     | (go_at_call 206; refine (a_or (zs := [g1, g2]) (nats2 w6 g1 g2) (by simp)).mono ?_; rintro e w7 ⟨rfl, K7⟩; have U3 := U2.step ((Kp.new _ _).chain K7); have x0 := U3.r0; have x1 := U3.r1; have x2 := U3.c0; have x3 := U3.c1; have x4 := U3.c2; have x5 := U3.c3; have y0 := U3.b9.cell 0; have y1 := U3.b9.cell 1; have y2 := U3.b9.cell 2; have y3 := U3.b9.cell 3; have z0 := U3.b9.frozen 0; have z1 := U3.b9.frozen 1; have z2 := U3.b9.frozen 2; have z3 := U3.b9.frozen 3; clear K7))
 all_goals (
   go_wp2
   obtain ⟨q0, q1, q2, q3, K9⟩ := four_set U3.b9 HLE.out U3.kp (.int .i64 (x : Int)) (.int .i64 (y : Int)) (.int .i64 (ox : Int)) (.int .i64 (oy : Int))
   generalize ((((w7.setCell ⟨g9, 0, none⟩ (.int .i64 (x : Int))).setCell ⟨g9, 1, none⟩ (.int .i64 (y : Int))).setCell ⟨g9, 2, none⟩ (.int .i64 (ox : Int))).setCell ⟨g9, 3, none⟩ (.int .i64 (oy : Int))) = W9 at q0 q1 q2 q3 K9 ⊢
   refine bodyPost_ret (v := .tuple #[.int .i64 (orL [g1, g2] : Nat), .agg #[.int .i64 (x : Int), .int .i64 (y : Int), .int .i64 (ox : Int), .int .i64 (oy : Int)]]) ?_ rfl ⟨rfl, K9⟩
   simp [results, Tryz.results212, q0, q1, q2, q3, go_sem])
end
end Go.Proofs.YthndilllnneijaaGreat
