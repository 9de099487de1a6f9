/-
  The contract of package alloc's lowestGap. Conditions: those that stand in each theorem.
-/
import Derived.Test.YthndilllnneijaaGreatPGJC
import Derived.Deep.OwnRows
set_option linter.unusedSimpArgs false
set_option linter.unusedVariables false
set_option maxRecDepth 100000
set_option maxHeartbeats 4000000
namespace Go.Proofs.YthndilllnneijaaGreat
open Go.RowKit Go.Deep Go.Maps Go.Shelf
attribute [local go_sem] Oper.semAt_some
section
variable {w W V : World} {b : HB} {m : HM} {q : Nat}
theorem a_lowestGap (h : SH w b q m) (s f n : Nat) (hf : f ≤ 10000) (hn : n ≤ 10000) :
   Calls Tryz.prog 207 #[.agg #[.pointer (some ⟨b.g, 0, none⟩), .int .i64 (s : Int)], .int .i64 (f : Int), .int .i64 (n : Int)] w fun e w' => e = .returned (.int .i64 (m.lowG s f n : Int)) ∧ Kp [] w w' := by
 have HINV := hid h.inv
 have HLT := hid h.lt
 have HSH := hid h
 clear h
 refine (callsIn_wide (n := 3)).1 ?_
 refine callsIn_of_wp_marks Tryz.func207 rfl trivial ?_ rfl
 simp only [Tryz.ntmps207, List.size_toArray, List.length_cons, List.length_nil, Nat.reduceAdd, Nat.reduceSub, Array.replicate_succ, Array.replicate_zero, List.push_toArray, List.append_toArray, List.nil_append, List.cons_append]
 gi_wp2
 refine ⟨trivial, ?_⟩
 refine (callsIn_wide.2 (a_gaps s f _)).mono ?_
 rintro e w2 ⟨rfl, rfl⟩
 gi_wp2
 obtain ⟨w0, hw0⟩ : ∃ w0, w0 = (((((w.alloc (.cells #[.pointer (some ⟨b.g, 0, none⟩), .int .i64 (s : Int)] 118)).alloc (.cells #[.int .i64 (n : Int)] 3)).alloc (.cells #[.int .i64 0] 3)).alloc (.cells #[.pointer (some ⟨b.g, 0, none⟩), .int .i64 (s : Int)] 118)).alloc (.cells #[.int .i64 (f : Int)] 3)) := ⟨_, rfl⟩
 have hsz : w0.heap.size = w.heap.size + 5 := by rw [hw0]; simp
 have K0 : Kp [] w w0 := by rw [hw0]; exact ((((Kp.new _ _).chain (Kp.new _ _)).chain (Kp.new _ _)).chain (Kp.new _ _)).chain (Kp.new _ _)
 have hbl : ∀ x ∈ b.all, x < w.heap.size + 5 := fun x hx => by have := HLT.out x hx; omega
 have B5 : Blk w0 (w.heap.size + 1) 3 #[.int .i64 (n : Int)] := by
   rw [hw0]
   have := (((Blk.new (w.alloc (.cells #[.pointer (some ⟨b.g, 0, none⟩), .int .i64 (s : Int)] 118)) 3 #[.int .i64 (n : Int)]).kp (Kp.new _ (.cells #[.int .i64 0] 3)) (by simp)).kp (Kp.new _ (.cells #[.pointer (some ⟨b.g, 0, none⟩), .int .i64 (s : Int)] 118)) (by simp)).kp (Kp.new _ (.cells #[.int .i64 (f : Int)] 3)) (by simp)
   simpa using this
 have B6 : Blk w0 (w.heap.size + 1 + 1) 3 #[.int .i64 0] := by
   rw [hw0]
   have := ((Blk.new ((w.alloc (.cells #[.pointer (some ⟨b.g, 0, none⟩), .int .i64 (s : Int)] 118)).alloc (.cells #[.int .i64 (n : Int)] 3)) 3 #[.int .i64 0]).kp (Kp.new _ (.cells #[.pointer (some ⟨b.g, 0, none⟩), .int .i64 (s : Int)] 118)) (by simp)).kp (Kp.new _ (.cells #[.int .i64 (f : Int)] 3)) (by simp)
   simpa using this
 have Br : Blk w0 (w.heap.size + 1 + 1 + 1) 118 #[.pointer (some ⟨b.g, 0, none⟩), .int .i64 (s : Int)] := by
   rw [hw0]
   have := (Blk.new (((w.alloc (.cells #[.pointer (some ⟨b.g, 0, none⟩), .int .i64 (s : Int)] 118)).alloc (.cells #[.int .i64 (n : Int)] 3)).alloc (.cells #[.int .i64 0] 3)) 118 #[.pointer (some ⟨b.g, 0, none⟩), .int .i64 (s : Int)]).kp (Kp.new _ (.cells #[.int .i64 (f : Int)] 3)) (by simp)
   simpa using this
 have Bf : Blk w0 (w.heap.size + 1 + 1 + 1 + 1) 3 #[.int .i64 (f : Int)] := by
   rw [hw0]
   have := Blk.new ((((w.alloc (.cells #[.pointer (some ⟨b.g, 0, none⟩), .int .i64 (s : Int)] 118)).alloc (.cells #[.int .i64 (n : Int)] 3)).alloc (.cells #[.int .i64 0] 3)).alloc (.cells #[.pointer (some ⟨b.g, 0, none⟩), .int .i64 (s : Int)] 118)) 3 #[.int .i64 (f : Int)]
   simpa using this
 rw [← hw0]
 obtain ⟨R, hR⟩ : ∃ R : List (Nat × Nat) → World → Prop, R = fun pre W => PatG b q m s f (w.heap.size + 1 + 1 + 1) (w.heap.size + 1 + 1 + 1 + 1) W ∧ (Blk W (w.heap.size + 1) 3 #[.int .i64 (n : Int)] ∧ (Blk W (w.heap.size + 1 + 1) 3 #[.int .i64 0] ∧ (∀ a ∈ pre, fitA a n = false))) := ⟨_, rfl⟩
 have HRD := hid hR
 have hLR : ∀ pre, Low (w.heap.size + 5) (R pre) := fun pre => by rw [hR]; exact (Low.patG hbl (by omega) (by omega)).and ((Low.blk (by omega) _ _).and ((Low.blk (by omega) _ _).and (Low.pure _ _)))
 have hLX : Low (w.heap.size + 5) (fun W => Blk W (w.heap.size + 1 + 1) 3 #[.int .i64 (m.lowG s f n : Int)]) := Low.blk (by omega) _ _
 have hR0 : R [] w0 := by rw [hR]; exact ⟨⟨HSH.out.k0 K0, Br, Bf⟩, B5, B6, by simp⟩
 have HLR := hid hLR
 have HLX := hid hLX
 have HR0 := hid hR0
 have HK0 := hid K0
 have HSZ := hid hsz
 have HW5 : Hid (w.heap.size ≤ w.heap.size + 5) := by show _ ≤ _; omega
 clear hw0 hsz K0 hbl B5 B6 Br Bf hR hLR hLX hR0
 refine range_yields rfl (by omega) (gf := 209) (cv := #[]) (lb := #[.pointer (some ⟨w.heap.size + 1 + 1 + 1, 0, none⟩), .pointer (some ⟨w.heap.size + 1 + 1 + 1 + 1, 0, none⟩)]) rfl trivial (enters_of Tryz.func209 (by kernel_rfl) rfl)
   (gaps_yields s f (w.heap.size + 1 + 1 + 1) (w.heap.size + 1 + 1 + 1 + 1) hf (by omega)) (fun _ => rfl)
   (fun pre S W => OL w (w.heap.size + 5) (R pre) S W)
   (fun c pre S W => c = .ret ∧ OL w (w.heap.size + 5) (fun W => Blk W (w.heap.size + 1 + 1) 3 #[.int .i64 (m.lowG s f n : Int)]) S W)
   (fun pre S W h => by have := h.r; rw [HRD.out] at this; exact this.1)
   (fun pre S W W' h K => h.bears (HLR.out _) HW5.out K)
   (fun c pre S W W' h K => ⟨h.1, h.2.bears HLX.out HW5.out K⟩)
   (fun pre S W o o' h _ _ => h.put (HLR.out _) HW5.out _ (by rw [HSZ.out]; omega) _)
   (fun c pre S W o o' h _ _ => ⟨h.1, h.2.put HLX.out HW5.out _ (by rw [HSZ.out]; omega) _⟩)
   (fun o o' _ _ => OL.start (HLR.out _) HSZ.out HR0.out HK0.out o o')
   (fun x a' W => ∃ Bx, Blk W Bx 120 #[.int .i64 (x.1 : Int), .int .i64 (x.2 : Int)] ∧ a' = { tmps := #[.agg #[.pointer (some ⟨b.g, 0, none⟩), .int .i64 (s : Int)], .int .i64 (f : Int), .int .i64 (n : Int), .pointer (some ⟨w.heap.size, 0, none⟩), undef, .pointer (some ⟨w.heap.size + 1, 0, none⟩), .pointer (some ⟨w.heap.size + 1 + 1, 0, none⟩), .pointer (some ⟨Bx, 0, none⟩), .agg #[.pointer (some ⟨b.g, 0, none⟩), .int .i64 (s : Int)], .int .i64 (f : Int), .func (.func 209) #[] #[.pointer (some ⟨w.heap.size + 1 + 1 + 1, 0, none⟩), .pointer (some ⟨w.heap.size + 1 + 1 + 1 + 1, 0, none⟩)], .agg #[.int .i64 (x.1 : Int), .int .i64 (x.2 : Int)], undef, undef, undef, undef, undef], defers := [] })
   (fun x a' W o o' h ho hc => by
     obtain ⟨Bx, hb, e⟩ := h
     refine ⟨Bx, hb.kp (Kp.putAt W _ o') (fun hm => ?_), e⟩
     simp only [List.mem_singleton] at hm
     unfold Blk at hb
     rw [hm, ho] at hb
     cases hb; cases hc) ?assign ?body ?done ?stop
 case assign =>
   intro l' pre x S W K hI hK
   obtain ⟨x, y⟩ := x
   have HK := hid hK
   have HI := hid hI
   clear hK hI
   gi_wp2
   have kn : Kp [] W (W.alloc (.cells #[.int .i64 (x : Int), .int .i64 (y : Int)] 120)) := Kp.new _ _
   exact HK.out _ _ (KpS.of_kp0 kn) (KpS.of_kp0 kn) (HI.out.step (HLR.out _) kn) ⟨W.heap.size, Blk.new _ _ _, rfl⟩
 case body =>
   rintro l' pre ⟨x, y⟩ S a' W hI ⟨Bx, hbx, rfl⟩ hpre
   have hbd := ars_bd HINV.out (show (x, y) ∈ m.ars s f from hpre.subset (by simp))
   have hrr := hI.r
   rw [HRD.out] at hrr
   obtain ⟨hpat, b5, b6, hno⟩ := hrr
   have c0 := hbx.cell 0
   have c1 := hbx.cell 1
   have d0 := b5.cell 0
   have HI := hid hI
   have HNO := hid hno
   have HB6 := hid b6
   have HPRE := hid hpre
   have hxx : x ≤ 100000 := by simp only at hbd; omega
   have HBX := hid hbx
   clear hI hno b6 hpre hpat b5 hbx hbd
   dsimp only at c0 c1
   rcases hfit : fitA (x, y) n
   · have HF := hid (a_fits x y n W hxx (by omega))
     rw [hfit] at HF
     have HFI := hid hfit
     clear hfit
     gi_wp2
     refine ⟨trivial, ?_⟩
     refine ((callsIn_wide.2 HF.out).inRound l').mono ?_
     rintro e w5 ⟨rfl, K5⟩
     have HI5 := hid (HI.out.to (R' := R (pre ++ [(x, y)])) K5 (by simp) (by
       have hr := HI.out.r
       rw [HRD.out] at hr ⊢
       refine ⟨Low.patG (B := W.heap.size + w.heap.size + 10) (fun z hz => ?_) (by omega) (by omega) [] W w5 K5 (by simp) hr.1, hr.2.1.kp K5 (by simp), hr.2.2.1.kp K5 (by simp), fun a ha => ?_⟩
       · have := HLT.out z hz; omega
       · rcases List.mem_append.1 ha with h1 | h1
         · exact hr.2.2.2 a h1
         · simp at h1; rw [h1]; exact HFI.out))
     have HKS := hid (HI.out.kps K5 (by simp))
     clear K5
     gi_wp2
     refine ⟨?_, HKS.out.2, HI5.out⟩
     rw [HSZ.out]
     exact HKS.out.1
   · have HF := hid (a_fits x y n W hxx (by omega))
     rw [hfit] at HF
     have HFI := hid hfit
     have HLG : Hid (m.lowG s f n = x) := firstFit_at HPRE.out HNO.out hfit
     clear hfit
     gi_wp2
     refine ⟨trivial, ?_⟩
     refine ((callsIn_wide.2 HF.out).inRound l').mono ?_
     rintro e w5 ⟨rfl, K5⟩
     have B6 := HB6.out.kp K5 (by simp)
     have e0 := B6.cell 0
     have f0 := B6.frozen 0
     have q0 := (HBX.out.kp K5 (by simp)).cell 0
     have HB65 := hid B6
     have HK5 := hid K5
     clear K5 B6
     gi_wp2
     have KC := HK5.out.chain0 (Kp.cell w5 ⟨w.heap.size + 1 + 1, 0, none⟩ (.int .i64 (x : Int)))
     have hks := HI.out.kps KC (by simp)
     refine ⟨?_, hks.2, rfl, HI.out.to KC (by simp; omega) ?_⟩
     · rw [HSZ.out]; exact hks.1
     · rw [HLG.out]
       exact HB65.out.set_ 0 (.int .i64 (x : Int))
 case done =>
   rintro D S W rfl hI hDK
   have hrr := hI.r
   rw [HRD.out] at hrr
   obtain ⟨hpat, b5, b6, hno⟩ := hrr
   have e0 := b6.cell 0
   have f0 := b6.frozen 0
   have HI := hid hI
   have HB6 := hid b6
   have HLG : Hid (m.lowG s f n = 0) := firstFit_no hno
   clear hI hno b6 hpat b5
   gi_wp2
   have KC := Kp.cell W ⟨w.heap.size + 1 + 1, 0, none⟩ (.int .i64 0)
   have hD2 : (W.setCell ⟨w.heap.size + 1 + 1, 0, none⟩ (.int .i64 0)).heap[w0.heap.size]? = some (.deferred (some [])) := (KC.block _ (Array.getElem?_eq_some_iff.1 hDK).1 (by have := HSZ.out; simp; omega)).trans hDK
   have B9 := (HB6.out.set_ 0 (.int .i64 0)).kp (Kp.putAt (W.setCell ⟨w.heap.size + 1 + 1, 0, none⟩ (.int .i64 0)) w0.heap.size (.deferred none)) (by have := HSZ.out; simp; omega)
   have K9 := (HI.out.kp.trans KC (U := []) (by simp) (fun x hx => .inr (by simp at hx; omega))).trans (Kp.putAt (W.setCell ⟨w.heap.size + 1 + 1, 0, none⟩ (.int .i64 0)) w0.heap.size (.deferred none)) (U := []) (by simp) (fun x hx => .inr (by have := HSZ.out; simp at hx; omega))
   refine ⟨by simp, .inl ⟨_, _, rfl, run_takeDeferred hD2, ?_⟩⟩
   generalize (W.setCell ⟨w.heap.size + 1 + 1, 0, none⟩ (.int .i64 0)).putObj w0.heap.size (.deferred none) = W9 at B9 K9 ⊢
   have q0 : W9.cell? ⟨w.heap.size + 1 + 1, 0, none⟩ = some (.int .i64 0) := B9.cell 0
   refine ⟨.int .i64 0, ?_, by rw [HLG.out]; rfl, K9⟩
   simp [results, Tryz.results207, q0, go_sem]
 case stop =>
   rintro D c pre S W rfl hpre ⟨rfl, h⟩ hDK
   have HH := hid h
   clear h
   gi_wp2
   refine ⟨by simp, .inl ⟨_, _, rfl, run_takeDeferred hDK, ?_⟩⟩
   have B9 := HH.out.r.kp (Kp.putAt W w0.heap.size (.deferred none)) (by have := HSZ.out; simp; omega)
   have K9 := HH.out.kp.trans (Kp.putAt W w0.heap.size (.deferred none)) (U := []) (by simp) (fun x hx => .inr (by have := HSZ.out; simp at hx; omega))
   generalize W.putObj w0.heap.size (.deferred none) = W9 at B9 K9 ⊢
   have q0 : W9.cell? ⟨w.heap.size + 1 + 1, 0, none⟩ = some (.int .i64 (m.lowG s f n : Int)) := B9.cell 0
   refine ⟨.int .i64 (m.lowG s f n : Int), ?_, rfl, K9⟩
   simp [results, Tryz.results207, q0, go_sem]
end
attribute [local go_sem] Oper.semAt_some
theorem ars_le {m : HM} (I : m.Inv) {s : Nat} {a : Nat × Nat} (ha : a ∈ m.ars s 0) : a.1 + 1 ≤ a.2 ∧ a.2 - a.1 ≤ 64 := by
 unfold HM.ars arsL at ha
 obtain ⟨k, hk, hak⟩ := List.mem_flatMap.1 ha
 unfold arsAt at hak
 obtain ⟨g, hg, rfl⟩ := List.mem_map.1 hak
 obtain ⟨i, hi, rfl⟩ := List.mem_iff_getElem.1 hg
 have h1 := gap_bd I (k := k) (i := i) hi
 rw [List.getD_eq_getElem?_getD, List.getElem?_eq_getElem hi] at h1
 simp only [Option.getD_some] at h1
 unfold areaOf
 simp only
 omega
section
variable {w W V : World} {b : HB} {m : HM} {q : Nat}
theorem a_leastGap (h : SH w b q m) (s n : Nat) (hn : n ≤ 10000) :
   Calls Tryz.prog 213 #[.agg #[.pointer (some ⟨b.g, 0, none⟩), .int .i64 (s : Int)], .int .i64 (n : Int)] w fun e w' => e = .returned (.int .i64 (m.leastG s n : Int)) ∧ Kp [] w w' := by
 have HINV := hid h.inv
 have HLT := hid h.lt
 have HSH := hid h
 clear h
 refine (callsIn_wide (n := 3)).1 ?_
 refine callsIn_of_wp_marks Tryz.func213 rfl trivial ?_ rfl
 simp only [Tryz.ntmps213, List.size_toArray, List.length_cons, List.length_nil, Nat.reduceAdd, Nat.reduceSub, Array.replicate_succ, Array.replicate_zero, List.push_toArray, List.append_toArray, List.nil_append, List.cons_append]
 gi_wp2
 refine ⟨trivial, ?_⟩
 refine (callsIn_wide.2 (a_gaps s 0 _)).mono ?_
 rintro e w2 ⟨rfl, rfl⟩
 gi_wp2
 obtain ⟨w0, hw0⟩ : ∃ w0, w0 = ((((((w.alloc (.cells #[.pointer (some ⟨b.g, 0, none⟩), .int .i64 (s : Int)] 118)).alloc (.cells #[.int .i64 (n : Int)] 3)).alloc (.cells #[.int .i64 0] 3)).alloc (.cells #[.int .i64 65] 3)).alloc (.cells #[.pointer (some ⟨b.g, 0, none⟩), .int .i64 (s : Int)] 118)).alloc (.cells #[.int .i64 ((0 : Nat) : Int)] 3)) := ⟨_, rfl⟩
 have hsz : w0.heap.size = w.heap.size + 6 := by rw [hw0]; simp
 have K0 : Kp [] w w0 := by rw [hw0]; exact (((((Kp.new _ _).chain (Kp.new _ _)).chain (Kp.new _ _)).chain (Kp.new _ _)).chain (Kp.new _ _)).chain (Kp.new _ _)
 have hbl : ∀ x ∈ b.all, x < w.heap.size + 6 := fun x hx => by have := HLT.out x hx; omega
 have B3 : Blk w0 (w.heap.size + 1) 3 #[.int .i64 (n : Int)] := by
   rw [hw0]
   have := ((((Blk.new (w.alloc (.cells #[.pointer (some ⟨b.g, 0, none⟩), .int .i64 (s : Int)] 118)) 3 #[.int .i64 (n : Int)]).kp (Kp.new _ (.cells #[.int .i64 0] 3)) (by simp)).kp (Kp.new _ (.cells #[.int .i64 65] 3)) (by simp)).kp (Kp.new _ (.cells #[.pointer (some ⟨b.g, 0, none⟩), .int .i64 (s : Int)] 118)) (by simp)).kp (Kp.new _ (.cells #[.int .i64 ((0 : Nat) : Int)] 3)) (by simp)
   simpa using this
 have B5 : Blk w0 (w.heap.size + 1 + 1) 3 #[.int .i64 ((0 : Nat) : Int)] := by
   rw [hw0]
   have := (((Blk.new ((w.alloc (.cells #[.pointer (some ⟨b.g, 0, none⟩), .int .i64 (s : Int)] 118)).alloc (.cells #[.int .i64 (n : Int)] 3)) 3 #[.int .i64 0]).kp (Kp.new _ (.cells #[.int .i64 65] 3)) (by simp)).kp (Kp.new _ (.cells #[.pointer (some ⟨b.g, 0, none⟩), .int .i64 (s : Int)] 118)) (by simp)).kp (Kp.new _ (.cells #[.int .i64 ((0 : Nat) : Int)] 3)) (by simp)
   simpa using this
 have B6 : Blk w0 (w.heap.size + 1 + 1 + 1) 3 #[.int .i64 ((65 : Nat) : Int)] := by
   rw [hw0]
   have := ((Blk.new (((w.alloc (.cells #[.pointer (some ⟨b.g, 0, none⟩), .int .i64 (s : Int)] 118)).alloc (.cells #[.int .i64 (n : Int)] 3)).alloc (.cells #[.int .i64 0] 3)) 3 #[.int .i64 65]).kp (Kp.new _ (.cells #[.pointer (some ⟨b.g, 0, none⟩), .int .i64 (s : Int)] 118)) (by simp)).kp (Kp.new _ (.cells #[.int .i64 ((0 : Nat) : Int)] 3)) (by simp)
   simpa using this
 have Br : Blk w0 (w.heap.size + 1 + 1 + 1 + 1) 118 #[.pointer (some ⟨b.g, 0, none⟩), .int .i64 (s : Int)] := by
   rw [hw0]
   have := (Blk.new ((((w.alloc (.cells #[.pointer (some ⟨b.g, 0, none⟩), .int .i64 (s : Int)] 118)).alloc (.cells #[.int .i64 (n : Int)] 3)).alloc (.cells #[.int .i64 0] 3)).alloc (.cells #[.int .i64 65] 3)) 118 #[.pointer (some ⟨b.g, 0, none⟩), .int .i64 (s : Int)]).kp (Kp.new _ (.cells #[.int .i64 ((0 : Nat) : Int)] 3)) (by simp)
   simpa using this
 have Bf : Blk w0 (w.heap.size + 1 + 1 + 1 + 1 + 1) 3 #[.int .i64 ((0 : Nat) : Int)] := by
   rw [hw0]
   have := Blk.new (((((w.alloc (.cells #[.pointer (some ⟨b.g, 0, none⟩), .int .i64 (s : Int)] 118)).alloc (.cells #[.int .i64 (n : Int)] 3)).alloc (.cells #[.int .i64 0] 3)).alloc (.cells #[.int .i64 65] 3)).alloc (.cells #[.pointer (some ⟨b.g, 0, none⟩), .int .i64 (s : Int)] 118)) 3 #[.int .i64 ((0 : Nat) : Int)]
   simpa using this
 have hgo : ∀ (x y : World), x = y → x = y := fun _ _ h => h
 rw [show ((((((w.alloc (.cells #[.pointer (some ⟨b.g, 0, none⟩), .int .i64 (s : Int)] 118)).alloc (.cells #[.int .i64 (n : Int)] 3)).alloc (.cells #[.int .i64 0] 3)).alloc (.cells #[.int .i64 65] 3)).alloc (.cells #[.pointer (some ⟨b.g, 0, none⟩), .int .i64 (s : Int)] 118)).alloc (.cells #[.int .i64 0] 3)) = w0 from hw0.symm]
 obtain ⟨R, hR⟩ : ∃ R : List (Nat × Nat) → World → Prop, R = fun pre W => PatG b q m s 0 (w.heap.size + 1 + 1 + 1 + 1) (w.heap.size + 1 + 1 + 1 + 1 + 1) W ∧ (Blk W (w.heap.size + 1) 3 #[.int .i64 (n : Int)] ∧ (Blk W (w.heap.size + 1 + 1) 3 #[.int .i64 ((pre.foldl (leastStep n) (0, 65)).1 : Int)] ∧ Blk W (w.heap.size + 1 + 1 + 1) 3 #[.int .i64 ((pre.foldl (leastStep n) (0, 65)).2 : Int)])) := ⟨_, rfl⟩
 have HRD := hid hR
 have hLR : ∀ pre, Low (w.heap.size + 6) (R pre) := fun pre => by rw [hR]; exact (Low.patG hbl (by omega) (by omega)).and ((Low.blk (by omega) _ _).and ((Low.blk (by omega) _ _).and (Low.blk (by omega) _ _)))
 have hR0 : R [] w0 := by rw [hR]; exact ⟨⟨HSH.out.k0 K0, Br, Bf⟩, B3, B5, B6⟩
 have HLR := hid hLR
 have HR0 := hid hR0
 have HK0 := hid K0
 have HSZ := hid hsz
 have HW5 : Hid (w.heap.size ≤ w.heap.size + 6) := by show _ ≤ _; omega
 clear hw0 hsz K0 hbl B3 B5 B6 Br Bf hR hLR hR0 hgo
 refine range_yields rfl (by omega) (gf := 209) (cv := #[]) (lb := #[.pointer (some ⟨w.heap.size + 1 + 1 + 1 + 1, 0, none⟩), .pointer (some ⟨w.heap.size + 1 + 1 + 1 + 1 + 1, 0, none⟩)]) rfl trivial (enters_of Tryz.func209 (by kernel_rfl) rfl)
   (gaps_yields s 0 (w.heap.size + 1 + 1 + 1 + 1) (w.heap.size + 1 + 1 + 1 + 1 + 1) (by omega) (by omega)) (fun _ => rfl)
   (fun pre S W => OL w (w.heap.size + 6) (R pre) S W)
   (fun c pre S W => False)
   (fun pre S W h => by have := h.r; rw [HRD.out] at this; exact this.1)
   (fun pre S W W' h K => h.bears (HLR.out _) HW5.out K)
   (fun c pre S W W' h K => h)
   (fun pre S W o o' h _ _ => h.put (HLR.out _) HW5.out _ (by rw [HSZ.out]; omega) _)
   (fun c pre S W o o' h _ _ => h)
   (fun o o' _ _ => OL.start (HLR.out _) HSZ.out HR0.out HK0.out o o')
   (fun x a' W => ∃ Bx, Blk W Bx 120 #[.int .i64 (x.1 : Int), .int .i64 (x.2 : Int)] ∧ a' = { tmps := #[.agg #[.pointer (some ⟨b.g, 0, none⟩), .int .i64 (s : Int)], .int .i64 (n : Int), .pointer (some ⟨w.heap.size, 0, none⟩), .pointer (some ⟨w.heap.size + 1, 0, none⟩), .int .i64 0, .pointer (some ⟨w.heap.size + 1 + 1, 0, none⟩), .pointer (some ⟨w.heap.size + 1 + 1 + 1, 0, none⟩), .pointer (some ⟨Bx, 0, none⟩), undef, .agg #[.pointer (some ⟨b.g, 0, none⟩), .int .i64 (s : Int)], .func (.func 209) #[] #[.pointer (some ⟨w.heap.size + 1 + 1 + 1 + 1, 0, none⟩), .pointer (some ⟨w.heap.size + 1 + 1 + 1 + 1 + 1, 0, none⟩)], .agg #[.int .i64 (x.1 : Int), .int .i64 (x.2 : Int)], undef, undef, undef, undef, undef, undef, undef, undef, undef, undef, undef, undef, undef, undef, undef, undef, undef], defers := [] })
   (fun x a' W o o' h ho hc => by
     obtain ⟨Bx, hb, e⟩ := h
     refine ⟨Bx, hb.kp (Kp.putAt W _ o') (fun hm => ?_), e⟩
     simp only [List.mem_singleton] at hm
     unfold Blk at hb
     rw [hm, ho] at hb
     cases hb; cases hc) ?assign ?body ?done ?stop
 case assign =>
   intro l' pre x S W K hI hK
   obtain ⟨x, y⟩ := x
   have HK := hid hK
   have HI := hid hI
   clear hK hI
   gi_wp2
   have kn : Kp [] W (W.alloc (.cells #[.int .i64 (x : Int), .int .i64 (y : Int)] 120)) := Kp.new _ _
   exact HK.out _ _ (KpS.of_kp0 kn) (KpS.of_kp0 kn) (HI.out.step (HLR.out _) kn) ⟨W.heap.size, Blk.new _ _ _, rfl⟩
 case body =>
   rintro l' pre ⟨x, y⟩ S a' W hI ⟨Bx, hbx, rfl⟩ hpre
   have hmem : (x, y) ∈ m.ars s 0 := hpre.subset (by simp)
   have hbd := ars_bd HINV.out hmem
   have hle := ars_le HINV.out hmem
   have hrr := hI.r
   rw [HRD.out] at hrr
   obtain ⟨hpat, b3, b5, b6⟩ := hrr
   obtain ⟨ad, le, hst⟩ : ∃ ad le, pre.foldl (leastStep n) (0, 65) = (ad, le) := ⟨_, _, rfl⟩
   rw [hst] at b5 b6
   have c0 := hbx.cell 0
   have c1 := hbx.cell 1
   have d0 := b3.cell 0
   have e0 := b5.cell 0
   have g0 := b6.cell 0
   have HI := hid hI
   have HB5 := hid b5
   have HB6 := hid b6
   have HST := hid hst
   simp only at hbd hle
   have hxx : x ≤ 100000 := by omega
   have hyy : y ≤ 100000 := by omega
   have HBX := hid hbx
   have HSTEP : Hid ((pre ++ [(x, y)]).foldl (leastStep n) (0, 65) = leastStep n (ad, le) (x, y)) := by show _ = _; rw [List.foldl_append, HST.out]; rfl
   have hxy : x ≤ y := by omega
   clear hI b5 b6 hpre hpat b3 hbx hbd hmem hst hle
   dsimp only at c0 c1
   rcases hfit : fitA (x, y) n
   · have HF := hid (fun W => a_fits x y n W hxx (by omega))
     have HFI := hid hfit
     have HS2 : Hid (leastStep n (ad, le) (x, y) = (ad, le)) := by show _ = _; unfold leastStep; rw [hfit, if_neg (by simp)]
     clear hfit
     gi_wp2
     refine ⟨trivial, ?_⟩
     refine ((callsIn_wide.2 (HF.out _)).inRound l').mono ?_
     rintro e w5 ⟨rfl, K5⟩
     rw [HFI.out]
     have HI5 := hid (HI.out.to (R' := R (pre ++ [(x, y)])) K5 (by simp) (by
       have hr := HI.out.step (HLR.out _) K5 |>.r
       rw [HRD.out] at hr ⊢
       simp only at hr ⊢
       rw [HSTEP.out, HS2.out]
       rw [HST.out] at hr
       exact hr))
     have HKS := hid (HI.out.kps K5 (by simp))
     clear K5
     gi_wp2
     refine ⟨?_, HKS.out.2, HI5.out⟩
     rw [HSZ.out]
     exact HKS.out.1
   · have HF := hid (fun W => a_fits x y n W hxx (by omega))
     have HFI := hid hfit
     by_cases hlt : y - x < le
     · have HS2 : Hid (leastStep n (ad, le) (x, y) = (x, y - x)) := by show _ = _; unfold leastStep; rw [hfit, if_pos ⟨rfl, hlt⟩]
       have t : decide ((y : Int) - (x : Int) < (le : Int)) = true := decide_eq_true (by omega)
       clear hfit hlt
       gi_wp2
       refine ⟨trivial, ?_⟩
       refine ((callsIn_wide.2 (HF.out _)).inRound l').mono ?_
       rintro e w5 ⟨rfl, K5⟩
       rw [HFI.out]
       have B5 := HB5.out.kp K5 (by simp)
       have B6 := HB6.out.kp K5 (by simp)
       have e5 := B5.cell 0
       have f5 := B5.frozen 0
       have e6 := B6.cell 0
       have f6 := B6.frozen 0
       have q0 := (HBX.out.kp K5 (by simp)).cell 0
       have HB55 := hid B5
       have HB65 := hid B6
       have HK5 := hid K5
       clear K5 B5 B6
       gi_wp2
       have k1 := Kp.cell w5 ⟨w.heap.size + 1 + 1, 0, none⟩ (.int .i64 (x : Int))
       have k2 := Kp.cell (w5.setCell ⟨w.heap.size + 1 + 1, 0, none⟩ (.int .i64 (x : Int))) ⟨w.heap.size + 1 + 1 + 1, 0, none⟩ (.int .i64 ((y : Int) - (x : Int)))
       have KC : Kp [w.heap.size + 1 + 1, w.heap.size + 1 + 1 + 1] W _ := (HK5.out.chain0 k1).trans k2 (fun z hz => .inl (by rcases List.mem_singleton.1 hz with rfl; simp)) (fun z hz => .inl (by rcases List.mem_singleton.1 hz with rfl; simp))
       have b5 := (HB55.out.set_ 0 (.int .i64 (x : Int))).kp k2 (by simp)
       have b6 := (HB65.out.kp k1 (by simp)).set_ 0 (.int .i64 ((y : Int) - (x : Int)))
       have hks := HI.out.kps KC (by simp)
       refine ⟨?_, hks.2, HI.out.to KC (by simp; omega) ?_⟩
       · rw [HSZ.out]; exact hks.1
       · have hr := HI.out.r
         rw [HRD.out] at hr ⊢
         simp only at hr ⊢
         rw [HSTEP.out, HS2.out]
         have hsub : (((y - x : Nat)) : Int) = (y : Int) - (x : Int) := by omega
         refine ⟨⟨hr.1.sh.kp KC (fun z hz hm => ?_), hr.1.br.kp KC (by simp; omega), hr.1.bf.kp KC (by simp; omega)⟩, hr.2.1.kp KC (by simp), b5, by rw [hsub]; exact b6⟩
         have := HLT.out z hz
         simp at hm
         omega
     · have HS2 : Hid (leastStep n (ad, le) (x, y) = (ad, le)) := by show _ = _; unfold leastStep; rw [if_neg (fun h => hlt h.2)]
       have t : decide ((y : Int) - (x : Int) < (le : Int)) = false := decide_eq_false (by omega)
       clear hfit hlt
       gi_wp2
       refine ⟨trivial, ?_⟩
       refine ((callsIn_wide.2 (HF.out _)).inRound l').mono ?_
       rintro e w5 ⟨rfl, K5⟩
       rw [HFI.out]
       have e6 := (HB6.out.kp K5 (by simp)).cell 0
       have HI5 := hid (HI.out.to (R' := R (pre ++ [(x, y)])) K5 (by simp) (by
         have hr := HI.out.step (HLR.out _) K5 |>.r
         rw [HRD.out] at hr ⊢
         simp only at hr ⊢
         rw [HSTEP.out, HS2.out]
         rw [HST.out] at hr
         exact hr))
       have HKS := hid (HI.out.kps K5 (by simp))
       clear K5
       gi_wp2
       refine ⟨?_, HKS.out.2, HI5.out⟩
       rw [HSZ.out]
       exact HKS.out.1
 case done =>
   rintro D S W rfl hI hDK
   have hrr := hI.r
   rw [HRD.out] at hrr
   obtain ⟨hpat, b3, b5, b6⟩ := hrr
   have e0 := b5.cell 0
   have HI := hid hI
   have HLG : Hid (m.leastG s n = ((m.ars s 0).foldl (leastStep n) (0, 65)).1) := rfl
   clear hI hpat b5 b6 b3
   gi_wp2
   have K9 := HI.out.kp.trans (Kp.putAt W w0.heap.size (.deferred none)) (U := []) (by simp) (fun x hx => .inr (by have := HSZ.out; simp at hx; omega))
   refine ⟨by simp, .inl ⟨_, _, rfl, run_takeDeferred hDK, ?_⟩⟩
   exact ⟨_, results_tmp rfl _ _ _, rfl, K9⟩
 case stop =>
   rintro D c pre S W rfl hpre h hDK
   exact h.elim
end
theorem holN_len (L : List Bool) (i : Nat) : (holN L i).length ≤ i := by
 induction i with
 | zero => exact Nat.le_refl _
 | succ i ih =>
   unfold holN
   split
   · omega
   · split
     · simp only [List.length_append, List.length_dropLast, List.length_cons, List.length_nil]; omega
     · simp only [List.length_append, List.length_cons, List.length_nil]; omega
theorem holN_some {L : List Bool} {i : Nat} (hi : 0 < i) (h : L.getD (i - 1) false = false) : 0 < (holN L i).length := by
 obtain ⟨j, rfl⟩ : ∃ j, i = j + 1 := ⟨i - 1, by omega⟩
 simp only [Nat.add_sub_cancel] at h
 unfold holN
 rw [if_neg (by rw [h]; decide)]
 split
 · simp
 · simp
theorem dropLast_set {α : Type} (l : List α) (x d : α) (h : 0 < l.length) : l.dropLast ++ [x] = l.set (l.length - 1) x := by
 induction l with
 | nil => cases h
 | cons a l ih =>
   rcases l with _ | ⟨b, l⟩
   · rfl
   · have := ih (by simp)
     simp only [List.dropLast_cons_cons, List.cons_append, List.length_cons, Nat.add_sub_cancel] at this ⊢
     rw [this]
     simp [List.set_cons_succ]
theorem getLastD_getD {α : Type} (l : List α) (d : α) : l.getLastD d = l.getD (l.length - 1) d := by
 induction l with
 | nil => rfl
 | cons a l ih =>
   rcases l with _ | ⟨b, l⟩
   · rfl
   · simp only [List.getLastD_cons, List.length_cons, Nat.add_sub_cancel] at ih ⊢
     rw [List.getD_cons_succ]
     simpa using ih
theorem holN_bd (L : List Bool) (i : Nat) : ∀ g ∈ holN L i, g.1 + g.2 ≤ i ∧ 1 ≤ g.2 := by
 induction i with
 | zero => intro g hg; cases hg
 | succ i ih =>
   intro g hg
   unfold holN at hg
   split at hg
   · have := ih g hg; omega
   · split at hg
     · rename_i h1 h2
       have hpos := holN_some h2.1 h2.2
       rcases List.mem_append.1 hg with h3 | h3
       · have := ih g (List.dropLast_subset _ h3); omega
       · simp only [List.mem_singleton] at h3
         have hm : (holN L i).getLastD (0, 0) ∈ holN L i := by
           rw [getLastD_getD, List.getD_eq_getElem?_getD, List.getElem?_eq_getElem (by omega)]
           exact List.getElem_mem _
         have := ih _ hm
         rw [h3]; simp only; omega
     · rcases List.mem_append.1 hg with h3 | h3
       · have := ih g h3; omega
       · simp only [List.mem_singleton] at h3
         rw [h3]; simp only; omega
theorem rcells_get1 {rs : List (Nat × Nat)} {sp : List Value} {q : Nat} (hq : q < rs.length) : (rcells rs ++ sp).toArray[q * 2 + 1]? = some (.int .i64 ((rs.getD q (0, 0)).2 : Int)) := by
 induction rs generalizing q with
 | nil => cases hq
 | cons r rs ih =>
   rcases q with _ | q
   · rfl
   · have := ih (q := q) (by simpa using hq)
     simp only [List.getElem?_toArray] at this ⊢
     have e : ∀ (l : List (Nat × Nat)) (a : Nat × Nat), rcells (a :: l) = .int .i64 (a.1 : Int) :: .int .i64 (a.2 : Int) :: rcells l := fun _ _ => rfl
     rw [e, show (q + 1) * 2 + 1 = q * 2 + 1 + 1 + 1 by omega]
     simp only [List.cons_append, List.getElem?_cons_succ, List.getD_cons_succ]
     rw [this]
def LinesAt (w : World) (v : Value) (L : List Bool) : Prop := ∃ A cap, v = .slice A L.length cap ∧ ∀ i, i < L.length → ∃ g, A = some ⟨g, 0, none⟩ ∧ w.cell? ⟨g, i, none⟩ = some (.bool (L.getD i false))
theorem LinesAt.kp0 {w W : World} {v : Value} {L : List Bool} (h : LinesAt w v L) (k : Kp [] w W) : LinesAt W v L := by
 obtain ⟨A, cap, rfl, hA⟩ := h
 exact ⟨A, cap, rfl, fun i hi => by obtain ⟨g, h1, h2⟩ := hA i hi; exact ⟨g, h1, cell_kp k h2⟩⟩
theorem rcells_set1 {rs : List (Nat × Nat)} {sp : List Value} {q : Nat} (y : Nat) (hq : q < rs.length) :
   ((rcells rs ++ sp).toArray.setIfInBounds (q * 2 + 1) (.int .i64 (y : Int))) = (rcells (rs.set q ((rs.getD q (0, 0)).1, y)) ++ sp).toArray := by
 rw [List.setIfInBounds_toArray]
 congr 1
 induction rs generalizing q with
 | nil => cases hq
 | cons r rs ih =>
   rcases q with _ | q
   · rfl
   · have := ih (q := q) (by simpa using hq)
     have e : ∀ (l : List (Nat × Nat)) (a : Nat × Nat), rcells (a :: l) = .int .i64 (a.1 : Int) :: .int .i64 (a.2 : Int) :: rcells l := fun _ _ => rfl
     rw [e, List.set_cons_succ, e, show (q + 1) * 2 + 1 = q * 2 + 1 + 1 + 1 by omega]
     simp only [List.cons_append, List.set_cons_succ, List.getD_cons_succ]
     rw [this]
theorem own_formR {w : World} {B : Nat} {v : Value} {rs : List (Nat × Nat)} (h : w.ownsRow B 76 2 v rs.length (rcells rs)) (hn : 0 < rs.length) :
   ∃ g c sp, v = .slice (some ⟨g, 0, none⟩) rs.length c ∧ B ≤ g ∧ Blk w g 76 (rcells rs ++ sp).toArray ∧ rs.length ≤ c ∧ c ≤ maxLen ∧ (rcells rs ++ sp).length = c * 2 := by
 obtain ⟨hl, h2 | ⟨g, cap, cur, hv, hg, hb, hnc, hcm, hsz, htk⟩⟩ := h
 · omega
 · refine ⟨g, cap, cur.toList.drop (rs.length * 2), hv, hg, ?_, hnc, hcm, ?_⟩
   · rw [← htk, List.take_append_drop]
     exact hb
   · rw [← htk, List.take_append_drop]
     simpa using hsz
theorem own_ofR {w : World} {B g c : Nat} {sp : List Value} {rs : List (Nat × Nat)} (hg : B ≤ g) (hb : Blk w g 76 (rcells rs ++ sp).toArray) (h1 : rs.length ≤ c) (h2 : c ≤ maxLen) (h3 : (rcells rs ++ sp).length = c * 2) :
   w.ownsRow B 76 2 (.slice (some ⟨g, 0, none⟩) rs.length c) rs.length (rcells rs) := by
 refine ⟨by rw [rcells_length], .inr ⟨g, c, (rcells rs ++ sp).toArray, rfl, hg, hb, h1, h2, by simpa using h3, ?_⟩⟩
 rw [List.toList_toArray, List.take_left' (rcells_length rs)]
section
variable {w W V : World} {b : HB} {m : HM} {q : Nat}
theorem a_holes {v : Value} {L : List Bool} (hL : LinesAt w v L) (hl : L.length ≤ 100) :
   Calls Tryz.prog 225 #[v] w (Grows w.heap.size w (holL L)) := by
 obtain ⟨i0, hi0, hz0, hz1, hz2⟩ := info_parts infoRun
 have hL0 := hL
 obtain ⟨A, cap, rfl, _⟩ := hL
 have HL := hid hL0
 clear hL0
 go_enter Tryz.func225, Tryz.ntmps225
 go_wp2
 go_loopw [3, 8] (fun r c wr => ∃ j : Nat, j ≤ L.length ∧ c = .int .i64 (j : Int) ∧ wr.ownsRow w.heap.size 76 2 r (holN L j).length (rcells (holN L j)) ∧ Below w.heap.size w wr) (fun _ c _ => L.length - (intOf c).toNat)
 case atStart => exact ⟨0, by omega, rfl, ⟨rfl, .inl ⟨rfl, rfl⟩⟩, Below.refl _ _⟩
 case round =>
   obtain ⟨j, hj, rfl, own, bel⟩ := hrel
   have HO := hid own
   have HBE := hid bel
   have HB2 := HL.out.kp0 (Kp.of_below bel)
   have hle := holN_len L j
   clear own bel
   by_cases hlt : j < L.length
   · obtain ⟨A', cap', e1, hA⟩ := HB2
     injection e1 with e1 e2 e3
     subst e1
     obtain ⟨g, rfl, hc⟩ := hA j hlt
     rcases ht : L.getD j false
     · by_cases hp : 0 < j ∧ L.getD (j - 1) false = false
       · have hstep : holN L (j + 1) = (holN L j).set ((holN L j).length - 1) (((holN L j).getD ((holN L j).length - 1) (0, 0)).1, ((holN L j).getD ((holN L j).length - 1) (0, 0)).2 + 1) := by
           conv => lhs; unfold holN
           rw [if_neg (by rw [ht]; decide), if_pos hp, dropLast_set _ _ (0, 0) (holN_some hp.1 hp.2), getLastD_getD]
         have hpos := holN_some hp.1 hp.2
         obtain ⟨gr, cr, sp, hv, hgr, hbr, hc1, hc2, hc3⟩ := own_formR HO.out hpos
         have hbel := HBE.out
         subst hv
         clear HO HBE
         obtain ⟨jm, hjm⟩ : ∃ jm, j = jm + 1 := ⟨j - 1, by omega⟩
         have htm : L.getD jm false = false := by rw [show jm = j - 1 by omega]; exact hp.2
         obtain ⟨g', e4, hcm⟩ := hA jm (by omega)
         injection e4 with e4
         injection e4 with e4
         subst e4
         rw [htm] at hcm
         rw [ht] at hc
         have hsub : (j : Int) - 1 = (jm : Int) := by omega
         have hdi : decide ((0 : Int) < (j : Int)) = true := decide_eq_true (by omega)
         have hdn : decide (0 < j) = true := decide_eq_true (by omega)
         have hjl : jm < L.length := by omega
         have HST := hid hstep
         have HJM := hid hjm
         generalize hrs : holN L j = rs at hle hpos hbr hc1 hc3 HST ⊢
         obtain ⟨p, hpl⟩ : ∃ p, rs.length = p + 1 := ⟨rs.length - 1, by omega⟩
         rw [hpl, Nat.add_sub_cancel] at HST
         have hpp : p < rs.length := by omega
         have hcell : wr.cell? ⟨gr, p * 2 + 1, none⟩ = some (.int .i64 ((rs.getD p (0, 0)).2 : Int)) := by
           rw [hbr.cell]
           exact rcells_get1 hpp
         have hfz := hbr.frozen (p * 2 + 1)
         obtain ⟨z, hz⟩ : ∃ z, (rs.getD p (0, 0)).2 = z := ⟨_, rfl⟩
         rw [hz] at hcell
         have HZ := hid hz
         have HBR := hid hbr
         have HPL := hid hpl
         have HRS := hid hrs
         have hzb : z ≤ 100000 := by
           have hm : rs.getD p (0, 0) ∈ holN L j := by
             rw [hrs, List.getD_eq_getElem?_getD, List.getElem?_eq_getElem hpp]
             exact List.getElem_mem _
           have := holN_bd L j _ hm
           omega
         have hp100 : p ≤ 100 := by omega
         have hps : ((p + 1 : Nat) : Int) - 1 = (p : Int) := by omega
         have HCC : Hid (rs.length ≤ cr ∧ cr ≤ maxLen ∧ (rcells rs ++ sp).length = cr * 2 ∧ w.heap.size ≤ gr ∧ Below w.heap.size w wr) := ⟨hc1, hc2, hc3, hgr, hbel⟩
         unfold maxLen at hc2
         rw [hpl] at hc1 ⊢
         clear hA e2 e3 ht htm hstep hp hjm hrs hbr hpl hz hpos hc3 hgr hbel hpp hle
         go_wp2
         go_roundw
         case rel =>
           obtain ⟨u1, u2, u3, u4, u5⟩ := HCC.out
           have hb2 := HBR.out.set_ (p * 2 + 1) (.int .i64 ((z : Int) + 1))
           have hz1 : (.int .i64 ((z : Int) + 1) : Value) = .int .i64 ((z + 1 : Nat) : Int) := rfl
           rw [hz1, rcells_set1 (z + 1) (by have := HPL.out; omega)] at hb2
           have HS9 := HST.out
           rw [HZ.out] at HS9
           have hlen : (holN L (j + 1)).length = p + 1 := by rw [HS9, List.length_set]; exact HPL.out
           have hown := own_ofR (w := wr.setCell ⟨gr, p * 2 + 1, none⟩ (.int .i64 ((z + 1 : Nat) : Int))) (rs := holN L (j + 1)) (sp := sp) (B := w.heap.size) (c := cr) u4 (by rw [HS9]; exact hb2) (by rw [hlen, ← HPL.out]; exact u1) u2 (by rw [HS9]; simpa [rcells_length] using u3)
           rw [hlen] at hown
           refine ⟨j + 1, by omega, by go_num, ?_, u5.trans ((Kp.cell wr ⟨gr, p * 2 + 1, none⟩ _).below u5.size (by simp; omega))⟩
           rw [hlen]
           exact hown
         case measure => simp [intOf]; omega
       · have hstep : holN L (j + 1) = holN L j ++ [(j, 1)] := by
           conv => lhs; unfold holN
           rw [if_neg (by rw [ht]; decide), if_neg hp]
         have HST := hid hstep
         rw [ht] at hc
         by_cases hj0 : j = 0
         · have hdi : decide ((0 : Int) < (j : Int)) = false := decide_eq_false (by omega)
           have hdn : decide (0 < j) = false := decide_eq_false (by omega)
           have HJ0 := hid hj0
           clear hA e2 e3 ht hstep hp hj0
           have own1 := HO.out
           have HNEW := hid (run_news wr (j : Int) 1 0)
           have NONE := run_news_one (j : Int) 1
           have HSZ := hid HBE.out.size
           go_wp2_with (at_builtin; refine wpList_append_own _ rfl (.tmp 13) (.tmp 16) 73 rfl w.heap.size 76 i0 (.agg #[.int .i64 0, .int .i64 0]) 2 16 Tryz.underlying73 hi0 hz0 hz1 hz2 rfl (by decide) _ _ _ rfl (HO.out.alloc _) ⟨wr.heap.size, 0, none⟩ 1 1 [.int .i64 (j : Int), .int .i64 1] rfl rfl HNEW.out NONE (by unfold maxLen; omega) (by omega) (by have := HSZ.out; simp; omega) ?_; intro v' w1 hown' hgr _; have HO1 := hid hown'; have HG1 := hid hgr; clear hown' hgr)
           go_roundw
           case rel =>
             obtain ⟨v2, e2, o2, b2⟩ := grows_end (n := 0) (i := j) (z := 1) HSZ.out rfl HO.out HO1.out HG1.out
             cases e2
             exact ⟨j + 1, by omega, by go_num, by rw [HST.out]; exact o2, HBE.out.trans b2⟩
           case measure => simp [intOf]; omega
         · obtain ⟨jm, hjm⟩ : ∃ jm, j = jm + 1 := ⟨j - 1, by omega⟩
           have htm : L.getD jm false = true := by
             rcases h : L.getD jm false
             · exact absurd ⟨by omega, by rw [show j - 1 = jm by omega]; exact h⟩ hp
             · rfl
           obtain ⟨g', e4, hcm⟩ := hA jm (by omega)
           injection e4 with e4
           injection e4 with e4
           subst e4
           rw [htm] at hcm
           have hsub : (j : Int) - 1 = (jm : Int) := by omega
           have hdi : decide ((0 : Int) < (j : Int)) = true := decide_eq_true (by omega)
           have hdn : decide (0 < j) = true := decide_eq_true (by omega)
           have hjl : jm < L.length := by omega
           have HJM := hid hjm
           clear hA e2 e3 ht htm hstep hp hj0 hjm
           have own1 := HO.out
           have HNEW := hid (run_news wr (j : Int) 1 0)
           have NONE := run_news_one (j : Int) 1
           have HSZ := hid HBE.out.size
           go_wp2_with (at_builtin; refine wpList_append_own _ rfl (.tmp 13) (.tmp 16) 73 rfl w.heap.size 76 i0 (.agg #[.int .i64 0, .int .i64 0]) 2 16 Tryz.underlying73 hi0 hz0 hz1 hz2 rfl (by decide) _ _ _ rfl (HO.out.alloc _) ⟨wr.heap.size, 0, none⟩ 1 1 [.int .i64 (j : Int), .int .i64 1] rfl rfl HNEW.out NONE (by unfold maxLen; omega) (by omega) (by have := HSZ.out; simp; omega) ?_; intro v' w1 hown' hgr _; have HO1 := hid hown'; have HG1 := hid hgr; clear hown' hgr)
           go_roundw
           case rel =>
             obtain ⟨v2, e2, o2, b2⟩ := grows_end (n := 0) (i := j) (z := 1) HSZ.out rfl HO.out HO1.out HG1.out
             cases e2
             exact ⟨j + 1, by omega, by go_num, by rw [HST.out]; exact o2, HBE.out.trans b2⟩
           case measure => simp [intOf]; omega
     · have hstep : holN L (j + 1) = holN L j := by
         conv => lhs; unfold holN
         rw [if_pos ht]
       have HST := hid hstep
       rw [ht] at hc
       clear hA e2 e3 ht hstep
       go_wp2
       go_roundw
       case rel => exact ⟨j + 1, by omega, by go_num, by rw [HST.out]; exact HO.out, HBE.out⟩
       case measure => simp [intOf]; omega
   · obtain rfl : j = L.length := by omega
     clear HB2
     go_wp2
     go_ret
     exact ⟨_, rfl, HO.out, HBE.out⟩
end
end Go.Proofs.YthndilllnneijaaGreat
