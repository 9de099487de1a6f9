/-
  What package alloc's blocks owes as an iterator. Conditions: those that stand in each theorem.
-/
import Derived.Test.YthndilllnneijaaGreatPGJB
import Derived.Stop.RegionWithIn
import Derived.Sort.QuietIn
set_option linter.unusedSimpArgs false
set_option linter.unusedVariables false
set_option maxRecDepth 100000
set_option maxHeartbeats 4000000
namespace Go.Proofs.YthndilllnneijaaGreat
open Go.RowKit Go.Deep Go.Maps Go.Shelf
attribute [local go_sem] Oper.semAt_some
theorem Bears.at_ {α : Type} {J : List α → List Nat → World → Prop} (hB : Bears J) {s : List α} {S : List Nat} {W W' : World} (h : J s S W) (k : Kp [] W W') : J s (nwBl W W' ++ S) W' := hB _ _ _ _ h (k.mono (by simp))
section
variable {w W V : World} {b : HB} {m : HM} {q n : Nat}
theorem blocks_yields (s : Nat) : Yields Fence.wide n Tryz.prog 210 #[.agg #[.pointer (some ⟨b.g, 0, none⟩), .int .i64 (s : Int)]] #[] (fun k : Nat => #[.int .i64 (k : Int)]) (fun W => SH W b q m) (blkS m s m.bl.length) := by
 intro l J Jx W hB hBx hP hY h0
 have HB := hid hB
 have HP := hid hP
 have HY := hid hY
 have h := hP _ _ _ h0
 have hl64 := h.inv.len64
 have KA := Kp.new W (.cells #[.pointer (some ⟨b.g, 0, none⟩), .int .i64 (s : Int)] 118)
 have HJ1 := hid (hB.at_ h0 KA)
 have HBX := hid (Blk.new W 118 #[.pointer (some ⟨b.g, 0, none⟩), .int .i64 (s : Int)])
 have HS1 := hid (h.k0 KA)
 have b0 := HBX.out.cell 0
 have b1 := HBX.out.cell 1
 have HIN : Hid (W.heap.size ∈ nwBl W (W.alloc (.cells #[.pointer (some ⟨b.g, 0, none⟩), .int .i64 (s : Int)] 118)) ++ []) := by
   show _ ∈ _
   rw [List.append_nil, mem_nwBl]; exact ⟨Nat.le_refl _, by simp⟩
 obtain ⟨N, hN⟩ : ∃ N, N = m.bl.length := ⟨_, rfl⟩
 rw [← hN] at hl64
 have HN := hid hN
 obtain ⟨W0, hW0⟩ : ∃ x, x = W := ⟨_, rfl⟩
 subst hW0
 clear hB hP hY h h0 KA hN
 refine callsIn_of_wp Tryz.func210 rfl trivial ?_ rfl
 simp only [Tryz.ntmps210, List.size_toArray, List.length_cons, List.length_nil, Nat.reduceAdd, Nat.reduceSub, Array.replicate_succ, Array.replicate_zero, List.push_toArray, List.append_toArray, List.nil_append, List.cons_append, List.append_nil, Array.append_empty]
 gi_wp2
 refine ⟨trivial, (fun h => by cases h), ?_⟩
 refine (callsIn_wide.2 (nb_k HS1.out)).mono ?_
 rintro e w1 ⟨rfl, K1⟩
 rw [← HN.out]
 have HJ2 := hid (HB.out.at_ HJ1.out K1)
 have HB2 := hid (HBX.out.kp K1 (by simp))
 have HI2 : Hid (W0.heap.size ∈ _) := List.mem_append_right (nwBl (W0.alloc (.cells #[.pointer (some ⟨b.g, 0, none⟩), .int .i64 (s : Int)] 118)) w1) HIN.out
 clear K1
 gi_wp2
 gi_loopw [8] (fun c wr => ∃ (j : Nat) (S : List Nat), j ≤ N ∧ c = .int .i64 (j : Int) ∧ J (blkS m s j) S wr ∧ W0.heap.size ∈ S ∧ Blk wr W0.heap.size 118 #[.pointer (some ⟨b.g, 0, none⟩), .int .i64 (s : Int)]) (fun c _ => N - (intOf c).toNat)
 case atStart => exact ⟨0, _, by omega, rfl, HJ2.out, HI2.out, HB2.out⟩
 case round =>
   clear HJ2 HB2 HI2 b0 b1
   obtain ⟨j, S, hj, rfl, hJ, hin, hbx⟩ := hrel
   have HJ := hid hJ
   have HI := hid hin
   have HX := hid hbx
   have b0 := hbx.cell 0
   have b1 := hbx.cell 1
   have HS := hid (HP.out _ _ _ hJ)
   clear hJ hin hbx
   by_cases hlt : j < N
   · have HO := hid (a_owns HS.out s j)
     rcases ho : ownS m s j
     · have HE : Hid (blkS m s (j + 1) = blkS m s j) := by show _ = _; rw [blkS_succ, ho]; simp
       rw [ho] at HO
       clear ho
       gi_wp2
       refine ⟨trivial, (fun h => by cases h), ?_⟩
       refine (callsIn_wide.2 HO.out).mono ?_
       rintro e w5 ⟨rfl, K5⟩
       have HJ5 := hid (HB.out.at_ HJ.out K5)
       have HX5 := hid (HX.out.kp K5 (by simp))
       clear K5
       gi_wp2
       refine ⟨(fun f hf => by cases hf), ?_⟩
       gi_wp2
       go_roundw
       case rel => exact ⟨j + 1, _, by omega, by go_num, by rw [HE.out]; exact HJ5.out, List.mem_append_right _ HI.out, HX5.out⟩
       case measure => simp [intOf]; omega
     · have HE : Hid (blkS m s (j + 1) = blkS m s j ++ [j]) := by show _ = _; rw [blkS_succ, ho]; simp
       have HPRE : Hid (blkS m s j ++ [j] <+: blkS m s m.bl.length) := by show _ <+: _; rw [← HE.out]; exact blkS_pre m s (by have := HN.out; omega)
       rw [ho] at HO
       clear ho
       gi_wp2
       refine ⟨trivial, (fun h => by cases h), ?_⟩
       refine (callsIn_wide.2 HO.out).mono ?_
       rintro e w5 ⟨rfl, K5⟩
       have HJ5 := hid (HB.out.at_ HJ.out K5)
       have HX5 := hid (HX.out.kp K5 (by simp))
       have HI5 : Hid (W0.heap.size ∈ nwBl wr w5 ++ S) := List.mem_append_right _ HI.out
       obtain ⟨fn, tmps, assign, body, hy, hR⟩ := HY.out _ j _ _ HJ5.out HPRE.out
       have HR := hid hR
       clear K5 hR
       gi_wp2
       refine ⟨(fun h => by cases h), ?_⟩
       refine HR.out.mono ?_
       rintro e W6 ⟨hK, hcase⟩
       have hx6 : Blk W6 W0.heap.size 118 #[.pointer (some ⟨b.g, 0, none⟩), .int .i64 (s : Int)] := (hK.2 _ HI5.out HX5.out.lt).trans HX5.out
       have HX6 := hid hx6
       clear hK hx6
       rcases hcase with ⟨rfl, hJ6⟩ | ⟨rfl, hJ6⟩
       · have HJ6 := hid hJ6
         clear hJ6
         gi_wp2
         go_roundw
         case rel => exact ⟨j + 1, _, by omega, by go_num, by rw [HE.out]; exact HJ6.out, HI5.out, HX6.out⟩
         case measure => simp [intOf]; omega
       · have HJ6 := hid hJ6
         clear hJ6
         gi_wp2
         refine bodyPost_ret (results_none rfl _ _ _) rfl ?_
         exact ⟨⟨_, rfl⟩, _, .inr ⟨_, HPRE.out, HJ6.out⟩⟩
   · obtain ⟨j9, rfl⟩ : ∃ x, x = j := ⟨_, rfl⟩
     have hje : j9 = N := by omega
     subst hje
     have hJ9 := HJ.out
     rw [HN.out] at hJ9
     have HJ9 := hid hJ9
     clear hJ9
     gi_wp2
     go_end0
     exact ⟨⟨_, rfl⟩, _, .inl HJ9.out⟩
end
attribute [local go_sem] Oper.semAt_some
structure PatG (b : HB) (q : Nat) (m : HM) (s f Br Bf : Nat) (W : World) : Prop where
 sh : SH W b q m
 br : Blk W Br 118 #[.pointer (some ⟨b.g, 0, none⟩), .int .i64 (s : Int)]
 bf : Blk W Bf 3 #[.int .i64 (f : Int)]
structure IG {α : Type} (J : List α → List Nat → World → Prop) (B l : Nat) (pre : List α) (S So : List Nat) (W : World) : Prop where
 j : J pre So W
 inB : B ∈ So
 in1 : B + 1 ∈ So
 in2 : B + 1 + 1 ∈ So
 sub : ∀ x ∈ S, x ∈ So ∧ B < x
 by_ : Blk W B 188 #[.func (.yield l) #[] #[]]
 sz : B + 1 + 1 < W.heap.size
theorem IG.bears {α : Type} {J : List α → List Nat → World → Prop} {B l : Nat} {pre : List α} {S So : List Nat} {W W' : World} (hJ : Bears J) (h : IG J B l pre S So W) (K : Kp S W W') : IG J B l pre (nwBl W W' ++ S) (nwBl W W' ++ So) W' := by
 refine ⟨hJ _ _ _ _ h.j (K.mono (fun x hx => .inl (h.sub x hx).1)), List.mem_append_right _ h.inB, List.mem_append_right _ h.in1, List.mem_append_right _ h.in2, fun x hx => ?_, h.by_.kp K (fun hm => Nat.lt_irrefl _ (h.sub _ hm).2), Nat.lt_of_lt_of_le h.sz K.size⟩
 rcases List.mem_append.1 hx with h1 | h1
 · exact ⟨List.mem_append_left _ h1, by have := (mem_nwBl.1 h1).1; have := h.sz; omega⟩
 · exact ⟨List.mem_append_right _ (h.sub x h1).1, (h.sub x h1).2⟩
theorem IG.step {α : Type} {J : List α → List Nat → World → Prop} {B l : Nat} {pre : List α} {S So : List Nat} {W W' : World} (hJ : Bears J) (h : IG J B l pre S So W) (K : Kp [] W W') : IG J B l pre S (nwBl W W' ++ So) W' := by
 refine ⟨hJ _ _ _ _ h.j (K.mono (by simp)), List.mem_append_right _ h.inB, List.mem_append_right _ h.in1, List.mem_append_right _ h.in2, fun x hx => ⟨List.mem_append_right _ (h.sub x hx).1, (h.sub x hx).2⟩, h.by_.kp K (by simp), Nat.lt_of_lt_of_le h.sz K.size⟩
theorem IG.put {α : Type} {J : List α → List Nat → World → Prop} {B l : Nat} {pre : List α} {S So : List Nat} {W : World} (hJ : Bears J) (h : IG J B l pre S So W) (o' : Obj) (x : Nat) (hx : x = B + 1 ∨ x = B + 1 + 1) : IG J B l pre S (nwBl W (W.putObj x o') ++ So) (W.putObj x o') := by
 have K : Kp [x] W (W.putObj x o') := ⟨rfl, rfl, rfl, by simp, fun k _ hn => World.putObj_heap_other (fun e => hn (by simp [e]))⟩
 refine ⟨hJ _ _ _ _ h.j (K.mono (fun y hy => .inl (by simp at hy; subst hy; rcases hx with rfl | rfl <;> first | exact h.in1 | exact h.in2))), List.mem_append_right _ h.inB, List.mem_append_right _ h.in1, List.mem_append_right _ h.in2, fun y hy => ⟨List.mem_append_right _ (h.sub y hy).1, (h.sub y hy).2⟩, h.by_.kp K (by simp; omega), Nat.lt_of_lt_of_le h.sz K.size⟩
def RunsIn (So : List Nat) (w : World) (v : Value) (rs : List (Nat × Nat)) : Prop :=
 ∃ A cap, v = .slice A rs.length cap ∧ ∀ i, i < rs.length → ∃ g, A = some ⟨g, 0, none⟩ ∧ g ∈ So ∧ w.cell? ⟨g, i * 2, none⟩ = some (.int .i64 ((rs.getD i (0, 0)).1 : Int)) ∧ w.cell? ⟨g, i * 2 + 1, none⟩ = some (.int .i64 ((rs.getD i (0, 0)).2 : Int))
theorem RunsIn.of_own {So : List Nat} {w : World} {B : Nat} {v : Value} {rs : List (Nat × Nat)} (own : w.ownsRow B 76 2 v rs.length (rcells rs)) (hS : ∀ g, B ≤ g → g < w.heap.size → g ∈ So) : RunsIn So w v rs := by
 obtain ⟨A, cap, h1, h2⟩ := RunsAt.of_own own
 refine ⟨A, cap, h1, fun i hi => ?_⟩
 obtain ⟨g, h3, h4⟩ := h2 i hi
 refine ⟨g, h3, hS g ?_ (cell_lt h4.1), h4⟩
 rcases own.2 with ⟨rfl, h0⟩ | ⟨g', cap', cur, rfl, hg, _⟩
 · omega
 · injection h1 with h1
   rw [h3] at h1
   injection h1 with h1
   injection h1 with h1
   omega
theorem cell_kpS {So : List Nat} {w W : World} {g i : Nat} {u : Value} (k : KpS So w W) (hg : g ∈ So) (h : w.cell? ⟨g, i, none⟩ = some u) : W.cell? ⟨g, i, none⟩ = some u := by
 rw [← h]; exact World.cell?_of_block (k.2 g hg (cell_lt h))
theorem RunsIn.kps {So So' : List Nat} {w W : World} {v : Value} {rs : List (Nat × Nat)} (h : RunsIn So w v rs) (k : KpS So w W) (hS : ∀ x ∈ So, x ∈ So') : RunsIn So' W v rs := by
 obtain ⟨A, cap, h1, h2⟩ := h
 exact ⟨A, cap, h1, fun i hi => by obtain ⟨g, e1, e2, e3, e4⟩ := h2 i hi; exact ⟨g, e1, hS g e2, cell_kpS k e2 e3, cell_kpS k e2 e4⟩⟩
theorem KpS.of_kp0 {S : List Nat} {W W' : World} (k : Kp [] W W') : KpS S W W' := KpS.of_kp k (by simp)
theorem IG.round {α : Type} {J J' : List α → List Nat → World → Prop} {B l : Nat} {pre pre2 : List α} {S So : List Nat} {W W' : World} (h : IG J B l pre S So W) (k : KpS So W W') (hj : J' pre2 So W') : IG J' B l pre2 S So W' :=
 ⟨hj, h.inB, h.in1, h.in2, h.sub, (k.2 _ h.inB h.by_.lt).trans h.by_, Nat.lt_of_lt_of_le h.sz k.1⟩
section
variable {w W V : World} {b : HB} {m : HM} {q n : Nat}
theorem arsL_pre (m : HM) (s f : Nat) {pre : List Nat} {k : Nat} (h : pre ++ [k] <+: blkS m s m.bl.length) (i : Nat) : pre.flatMap (arsAt m f) ++ (arsAt m f k).take i <+: m.ars s f := by
 obtain ⟨t, ht⟩ := h
 unfold HM.ars arsL
 rw [← ht, List.flatMap_append, List.flatMap_append]
 simp only [List.flatMap_cons, List.flatMap_nil, List.append_nil]
 rw [List.append_assoc]
 refine (List.prefix_append_right_inj _).2 ?_
 exact (List.take_prefix _ _).trans (List.prefix_append _ _)
theorem gaps_yields (s f Br Bf : Nat) (hf : f ≤ 10000) (hn : 1 ≤ n) : Yields Fence.wide n Tryz.prog 209 #[] #[.pointer (some ⟨Br, 0, none⟩), .pointer (some ⟨Bf, 0, none⟩)] (fun a : Nat × Nat => #[.agg #[.int .i64 (a.1 : Int), .int .i64 (a.2 : Int)]]) (PatG b q m s f Br Bf) (m.ars s f) := by
 intro l J Jx W hB hBx hP hY h0
 have HB := hid hB
 have HBX := hid hBx
 have HP := hid hP
 have HY := hid hY
 have h := hP _ _ _ h0
 have hl64 := h.sh.inv.len64
 have HINV := hid h.sh.inv
 have KA := Kp.new W (.cells #[.func (.yield l) #[] #[]] 188)
 have HJ1 := hid (hB.at_ h0 KA)
 have HBY := hid (Blk.new W 188 #[.func (.yield l) #[] #[]])
 have b0 := (h.br.kp KA (by simp)).cell 0
 have b1 := (h.br.kp KA (by simp)).cell 1
 obtain ⟨W0, hW0⟩ : ∃ x, x = W := ⟨_, rfl⟩
 subst hW0
 clear hB hBx hP hY h h0 KA
 refine callsIn_of_wp_marks Tryz.func209 rfl trivial ?_ rfl
 simp only [Tryz.ntmps209, List.size_toArray, List.length_cons, List.length_nil, Nat.reduceAdd, Nat.reduceSub, Array.replicate_succ, Array.replicate_zero, List.push_toArray, List.append_toArray, List.nil_append, List.cons_append, List.append_nil, Array.append_empty, Array.empty_append]
 gi_wp2
 obtain ⟨W1, hW1⟩ : ∃ x, x = W0.alloc (.cells #[.func (.yield l) #[] #[]] 188) := ⟨_, rfl⟩
 have HSZ : Hid (W1.heap.size = W0.heap.size + 1) := by show _ = _; rw [hW1]; simp
 rw [← hW1] at HJ1 HBY ⊢
 have HJ2 : Hid (∀ o o' : Obj, ∃ So, IG J W0.heap.size l [] [] So ((W1.alloc o).alloc o')) := fun o o' => by
   have k := (Kp.new W1 o).chain (Kp.new (W1.alloc o) o')
   refine ⟨nwBl W1 ((W1.alloc o).alloc o') ++ (nwBl W0 W1 ++ []), HB.out.at_ HJ1.out k, ?_, ?_, ?_, by simp, HBY.out.kp k (by simp), ?_⟩
   · exact List.mem_append_right _ (List.mem_append_left _ (mem_nwBl.2 ⟨Nat.le_refl _, by have := HSZ.out; omega⟩))
   · exact List.mem_append_left _ (mem_nwBl.2 ⟨by have := HSZ.out; omega, by have := HSZ.out; simp; omega⟩)
   · exact List.mem_append_left _ (mem_nwBl.2 ⟨by have := HSZ.out; omega, by have := HSZ.out; simp; omega⟩)
   · have := HSZ.out; simp; omega
 clear hW1 HJ1 b0 b1
 refine range_yields rfl hn (gf := 210) (cv := #[.agg #[.pointer (some ⟨b.g, 0, none⟩), .int .i64 (s : Int)]]) (lb := #[]) rfl trivial (enters_of Tryz.func210 (by kernel_rfl) rfl)
   (blocks_yields s) (fun _ => rfl)
   (fun pre S W => ∃ So, IG J W0.heap.size l (pre.flatMap (arsAt m f)) S So W)
   (fun c pre S W => c = .ret ∧ ∃ pre' So, pre' <+: m.ars s f ∧ IG Jx W0.heap.size l pre' S So W)
   (fun pre S W h => by obtain ⟨So, h⟩ := h; exact (HP.out _ _ _ h.j).sh)
   (fun s S W W' h K => by obtain ⟨So, h⟩ := h; exact ⟨_, h.bears HB.out K⟩)
   (fun c s S W W' h K => by obtain ⟨hc, pre', So, hp, h⟩ := h; exact ⟨hc, pre', _, hp, h.bears HBX.out K⟩)
   (fun pre S W o o' h _ _ => by obtain ⟨So, h⟩ := h; rw [HSZ.out]; exact ⟨_, h.put HB.out o' _ (.inr rfl)⟩)
   (fun c pre S W o o' h _ _ => by obtain ⟨hc, pre', So, hp, h⟩ := h; rw [HSZ.out]; exact ⟨hc, pre', _, hp, h.put HBX.out o' _ (.inr rfl)⟩)
   (fun o o' _ _ => HJ2.out o o')
   (fun x a' W => a' = { tmps := #[.func (.yield l) #[] #[], .pointer (some ⟨Br, 0, none⟩), .pointer (some ⟨Bf, 0, none⟩), .pointer (some ⟨W0.heap.size, 0, none⟩), .int .i64 (x : Int), undef, undef, .agg #[.pointer (some ⟨b.g, 0, none⟩), .int .i64 (s : Int)], .func (.func 210) #[.agg #[.pointer (some ⟨b.g, 0, none⟩), .int .i64 (s : Int)]] #[], .int .i64 (x : Int), undef, undef, undef, undef, undef, undef, undef, undef, undef, undef, undef, undef, undef, undef, undef, undef, undef, undef, undef, undef, undef, undef, undef], defers := [] })
   (fun x a' W o o' h _ _ => h) ?assign ?body ?done ?stop
 case assign =>
   intro l' pre x S W K hI hK
   have HK := hid hK
   have HI := hid hI
   clear hK hI
   gi_wp2
   exact HK.out _ _ (KpS.refl _ _) (KpS.refl _ _) HI.out rfl
 case body =>
   rintro l' pre k S a' W ⟨So, hI⟩ rfl hpre
   have hk : ownS m s k = true := by
     have : k ∈ blkS m s m.bl.length := hpre.subset (by simp)
     exact (mem_blkS.1 this).2
   have hk64 : k < 64 := by have := ownS_lt hk; have := HINV.out.len64; omega
   have G := HP.out _ _ _ hI.j
   have b0 := G.br.cell 0
   have HI := hid hI
   have HPRE := hid (arsL_pre m s f hpre)
   have HG := hid G.sh
   have hgl := gaps_len HINV.out (k := k)
   have HGB := hid (fun i hi => gap_bd HINV.out (k := k) (i := i) hi)
   have HAR : Hid (∀ i, i < (m.gapL (k : Int)).length → (arsAt m f k).take (i + 1) = (arsAt m f k).take i ++ [areaOf f ((m.gapL (k : Int)).getD i (0, 0))]) := fun i hi => by
     show ((m.gapL (k : Int)).map (areaOf f)).take (i + 1) = ((m.gapL (k : Int)).map (areaOf f)).take i ++ _
     rw [List.take_succ_eq_append_getElem (by simpa using hi), List.getElem_map, List.getD_eq_getElem?_getD, List.getElem?_eq_getElem hi]
     rfl
   have HLEN : Hid ((arsAt m f k).take (m.gapL (k : Int)).length = arsAt m f k) := by
     show _ = _
     rw [List.take_of_length_le]; unfold arsAt; simp
   clear hI hpre hk G
   gi_wp2
   refine ⟨trivial, (fun h => by cases h), ?_⟩
   refine ((callsIn_wide.2 (h_gaps HG.out _)).inRound l').mono ?_
   rintro e w2 ⟨v, rfl, own, bel⟩
   have K2 := Kp.of_below bel
   have HI2 := hid (HI.out.step HB.out K2)
   have HR2 := hid (RunsIn.of_own (So := nwBl W w2 ++ So) own (fun g h1 h2 => List.mem_append_left _ (mem_nwBl.2 ⟨h1, h2⟩)))
   have HK2 := hid (KpS.of_kp0 (S := So) K2)
   obtain ⟨A, cap, rfl, _⟩ := HR2.out
   clear own bel K2 b0
   generalize hgs : m.gapL (k : Int) = gs at hgl HGB HAR HLEN HR2 ⊢
   have HGS := hid hgs
   clear hgs
   gi_wp2
   gi_loopw [15] (fun c wr => ∃ (j : Nat) (So' : List Nat), j ≤ gs.length ∧ c = .int .i64 (j : Int) ∧ IG J W0.heap.size l (pre.flatMap (arsAt m f) ++ (arsAt m f k).take j) S So' wr ∧ RunsIn So' wr (.slice A gs.length cap) gs ∧ KpS So W wr ∧ (∀ x ∈ So, x ∈ So')) (fun c _ => gs.length - (intOf c).toNat)
   case atStart => exact ⟨0, _, by omega, rfl, by simpa using HI2.out, HR2.out, HK2.out, fun x hx => List.mem_append_right _ hx⟩
   case round =>
     clear HI2 HR2 HK2
     obtain ⟨j, So', hj, rfl, hI, hR, hKW, hsub⟩ := hrel
     by_cases hlt : j < gs.length
     · obtain ⟨A', cap', e1, hA⟩ := hR
       have HRR : Hid (RunsIn So' wr (.slice A gs.length cap) gs) := ⟨A', cap', e1, hA⟩
       injection e1 with e1 e2 e3
       subst e1
       obtain ⟨g, rfl, hgS, g1, g2⟩ := hA j hlt
       obtain ⟨u0, u1, u2, u3, _⟩ := HGB.out j hlt
       have hx := HAR.out j hlt
       obtain ⟨x, y, hxy⟩ : ∃ x y, gs.getD j (0, 0) = (x, y) := ⟨_, _, rfl⟩
       rw [hxy] at g1 g2 u0 u1 u2 u3 hx
       simp only at g1 g2 u0 u1 u2 u3
       have KA := Kp.new wr (.cells #[.int .i64 (x : Int), .int .i64 (y : Int)] 76)
       have HI3 := hid (hI.step HB.out KA)
       have HR3 := hid (HRR.out.kps (So' := nwBl wr (wr.alloc (.cells #[.int .i64 (x : Int), .int .i64 (y : Int)] 76)) ++ So') (KpS.of_kp0 KA) (fun z hz => List.mem_append_right _ hz))
       have HK3 := hid (hKW.trans (KpS.of_kp0 KA))
       have BX := Blk.new wr 76 #[.int .i64 (x : Int), .int .i64 (y : Int)]
       have HPRE3 : Hid ((pre.flatMap (arsAt m f) ++ (arsAt m f k).take j) ++ [areaOf f (x, y)] <+: m.ars s f) := by
         show _ <+: _
         rw [List.append_assoc, ← hx]; exact HPRE.out _
       have G3 := HP.out _ _ _ HI3.out.j
       have c0 := BX.cell 0
       have c1 := BX.cell 1
       have d0 := G3.bf.cell 0
       have y0 := HI3.out.by_.cell 0
       obtain ⟨fn, tmps, assign, body, hy, hRR⟩ := HY.out _ (areaOf f (x, y)) _ _ HI3.out.j HPRE3.out
       have HRI := hid hRR
       have HX := hid hx
       have HSUB := hid hsub
       have hmx : Hid (max (x : Int) (f : Int) = ((max x f : Nat) : Int)) := by show _ = _; omega
       clear hA e2 e3 hI hx hxy KA BX G3 hRR hgS hsub hKW
       dsimp only [areaOf] at hy
       rw [Int.natCast_add] at hy
       by_cases hxf : x < f
       · rw [Nat.max_eq_right (by omega)] at hy
         gi_wp2
         refine ⟨(fun h => by cases h), ?_⟩
         refine (roundIn_any HRI.out).mono ?_
         rintro e W6 ⟨hK6, hcase⟩
         have HK6 := hid hK6
         clear hK6
         rcases hcase with ⟨rfl, hJ6⟩ | ⟨rfl, hJ6⟩
         · have HI6 := hid (HI3.out.round HK6.out hJ6)
           clear hJ6
           gi_wp2
           go_roundw
           case rel =>
             have q := HI6.out
             rw [List.append_assoc, ← HX.out] at q
             exact ⟨j + 1, _, by omega, by go_num, q, HR3.out.kps HK6.out (fun _ h => h), HK3.out.trans (HK6.out.mono (fun z hz => List.mem_append_right _ (HSUB.out z hz))), fun z hz => List.mem_append_right _ (HSUB.out z hz)⟩
           case measure => simp [intOf]; omega
         · have HI6 := hid (HI3.out.round HK6.out hJ6)
           clear hJ6
           gi_wp2
           have q := HK3.out.trans (HK6.out.mono (fun z hz => List.mem_append_right _ (HSUB.out z hz)))
           refine ⟨q.mono (fun z hz => ?_), q.mono (fun z hz => (HI.out.sub z hz).1), rfl, _, _, HPRE3.out, HI6.out⟩
           rw [HSZ.out] at hz
           simp only [List.mem_cons, List.not_mem_nil, or_false] at hz
           rcases hz with rfl | rfl
           · exact HI.out.in1
           · exact HI.out.in2
       · rw [Nat.max_eq_left (by omega)] at hy
         gi_wp2
         refine ⟨(fun h => by cases h), ?_⟩
         refine (roundIn_any HRI.out).mono ?_
         rintro e W6 ⟨hK6, hcase⟩
         have HK6 := hid hK6
         clear hK6
         rcases hcase with ⟨rfl, hJ6⟩ | ⟨rfl, hJ6⟩
         · have HI6 := hid (HI3.out.round HK6.out hJ6)
           clear hJ6
           gi_wp2
           go_roundw
           case rel =>
             have q := HI6.out
             rw [List.append_assoc, ← HX.out] at q
             exact ⟨j + 1, _, by omega, by go_num, q, HR3.out.kps HK6.out (fun _ h => h), HK3.out.trans (HK6.out.mono (fun z hz => List.mem_append_right _ (HSUB.out z hz))), fun z hz => List.mem_append_right _ (HSUB.out z hz)⟩
           case measure => simp [intOf]; omega
         · have HI6 := hid (HI3.out.round HK6.out hJ6)
           clear hJ6
           gi_wp2
           have q := HK3.out.trans (HK6.out.mono (fun z hz => List.mem_append_right _ (HSUB.out z hz)))
           refine ⟨q.mono (fun z hz => ?_), q.mono (fun z hz => (HI.out.sub z hz).1), rfl, _, _, HPRE3.out, HI6.out⟩
           rw [HSZ.out] at hz
           simp only [List.mem_cons, List.not_mem_nil, or_false] at hz
           rcases hz with rfl | rfl
           · exact HI.out.in1
           · exact HI.out.in2
     · obtain ⟨j9, rfl⟩ : ∃ x, x = j := ⟨_, rfl⟩
       have hje : j9 = gs.length := by omega
       subst hje
       have hI9 := hI
       rw [HLEN.out] at hI9
       have HI9 := hid hI9
       have HK9 := hid hKW
       clear hI hR hKW hI9
       gi_wp2
       refine ⟨HK9.out.mono (fun z hz => ?_), HK9.out.mono (fun z hz => (HI.out.sub z hz).1), So', ?_⟩
       · rw [HSZ.out] at hz
         simp only [List.mem_cons, List.not_mem_nil, or_false] at hz
         rcases hz with rfl | rfl
         · exact HI.out.in1
         · exact HI.out.in2
       · rw [List.flatMap_append]
         simpa using HI9.out
 case done =>
   rintro D S W rfl hI hDK
   obtain ⟨So, h⟩ := hI
   have HH := hid h
   clear h
   gi_wp2
   refine ⟨by simp, .inl ⟨_, _, rfl, run_takeDeferred hDK, ?_⟩⟩
   refine ⟨_, results_none rfl _ _ _, ⟨_, rfl⟩, _, .inl (HH.out.put HB.out _ W1.heap.size (.inl HSZ.out)).j⟩
 case stop =>
   rintro D c pre S W rfl hpre ⟨rfl, pre', So, hp, h⟩ hDK
   have HH := hid h
   have HPP := hid hp
   clear h hp
   gi_wp2
   refine ⟨by simp, .inl ⟨_, _, rfl, run_takeDeferred hDK, ?_⟩⟩
   refine ⟨_, results_none rfl _ _ _, ⟨_, rfl⟩, _, .inr ⟨pre', HPP.out, (HH.out.put HBX.out _ W1.heap.size (.inl HSZ.out)).j⟩⟩
end
attribute [local go_sem] Oper.semAt_some
def Low (B : Nat) (R : World → Prop) : Prop := ∀ T W W', Kp T W W' → (∀ x ∈ T, B ≤ x) → R W → R W'
theorem Low.and {B : Nat} {R R' : World → Prop} (h : Low B R) (h' : Low B R') : Low B (fun W => R W ∧ R' W) := fun T W W' k hT r => ⟨h T W W' k hT r.1, h' T W W' k hT r.2⟩
theorem Low.pure (B : Nat) (p : Prop) : Low B (fun _ => p) := fun _ _ _ _ _ r => r
theorem Low.blk {B g : Nat} (hg : g < B) (t : TypeId) (cs : Array Value) : Low B (fun W => Blk W g t cs) := fun T W W' k hT r => r.kp k (fun hm => by have := hT g hm; omega)
theorem Low.sh {B : Nat} {b : HB} (hb : ∀ x ∈ b.all, x < B) (q : Nat) (m : HM) : Low B (fun W => SH W b q m) := fun T W W' k hT r => r.kp k (fun x hx hm => by have := hT x hm; have := hb x hx; omega)
theorem Low.patG {B : Nat} {b : HB} {q : Nat} {m : HM} {s f Br Bf : Nat} (hb : ∀ x ∈ b.all, x < B) (hr : Br < B) (hf : Bf < B) : Low B (PatG b q m s f Br Bf) := fun T W W' k hT r =>
 ⟨Low.sh hb q m T W W' k hT r.sh, Low.blk hr _ _ T W W' k hT r.br, Low.blk hf _ _ T W W' k hT r.bf⟩
structure OL (w : World) (B : Nat) (R : World → Prop) (S : List Nat) (W : World) : Prop where
 r : R W
 lo : ∀ x ∈ S, B ≤ x
 lt : B + 1 < W.heap.size
 kp : Kp [] w W
theorem OL.bears {w W W' : World} {B : Nat} {R : World → Prop} {S : List Nat} (hR : Low B R) (hw : w.heap.size ≤ B) (h : OL w B R S W) (K : Kp S W W') : OL w B R (nwBl W W' ++ S) W' := by
 refine ⟨hR _ _ _ K h.lo h.r, fun x hx => ?_, Nat.lt_of_lt_of_le h.lt K.size, h.kp.trans K (U := []) (by simp) (fun x hx => .inr (Nat.le_trans hw (h.lo x hx)))⟩
 rcases List.mem_append.1 hx with h1 | h1
 · have := (mem_nwBl.1 h1).1; have := h.lt; omega
 · exact h.lo x h1
theorem Kp.putAt (W : World) (l : Nat) (o : Obj) : Kp [l] W (W.putObj l o) := ⟨rfl, rfl, rfl, by simp, fun k _ hn => World.putObj_heap_other (fun e => hn (by simp [e]))⟩
theorem OL.put {w W : World} {B : Nat} {R : World → Prop} {S : List Nat} (hR : Low B R) (hw : w.heap.size ≤ B) (h : OL w B R S W) (x : Nat) (hx : B ≤ x) (o' : Obj) : OL w B R S (W.putObj x o') :=
 ⟨hR _ _ _ (Kp.putAt W x o') (by simpa using hx) h.r, h.lo, Nat.lt_of_lt_of_le h.lt (Kp.putAt W x o').size, h.kp.trans (Kp.putAt W x o') (U := []) (by simp) (fun y hy => .inr (by simp at hy; subst hy; omega))⟩
theorem OL.start {w W : World} {B : Nat} {R : World → Prop} (hR : Low B R) (hB : W.heap.size = B) (h : R W) (k : Kp [] w W) (o o' : Obj) : OL w B R [] ((W.alloc o).alloc o') := by
 have k2 := (Kp.new W o).chain (Kp.new (W.alloc o) o')
 exact ⟨hR _ _ _ k2 (by simp) h, by simp, by simp; omega, k.chain k2⟩
theorem OL.step {w W W' : World} {B : Nat} {R : World → Prop} {S : List Nat} (hR : Low B R) (h : OL w B R S W) (K : Kp [] W W') : OL w B R S W' :=
 ⟨hR _ _ _ K (by simp) h.r, h.lo, Nat.lt_of_lt_of_le h.lt K.size, h.kp.chain K⟩
theorem OL.to {w W W' : World} {B : Nat} {R R' : World → Prop} {S T : List Nat} (h : OL w B R S W) (K : Kp T W W') (hT : ∀ x ∈ T, w.heap.size ≤ x) (r : R' W') : OL w B R' S W' :=
 ⟨r, h.lo, Nat.lt_of_lt_of_le h.lt K.size, h.kp.trans K (U := []) (by simp) (fun x hx => .inr (hT x hx))⟩
theorem OL.kps {w W W' : World} {B : Nat} {R : World → Prop} {S T : List Nat} (h : OL w B R S W) (K : Kp T W W') (hT : ∀ x ∈ T, x < B) : KpS [B, B + 1] W W' ∧ KpS S W W' :=
 ⟨KpS.of_kp K (fun x hx hm => by have := hT x hx; simp at hm; omega), KpS.of_kp K (fun x hx hm => by have := hT x hx; have := h.lo x hm; omega)⟩
theorem ars_bd {m : HM} (I : m.Inv) {s f : Nat} {a : Nat × Nat} (ha : a ∈ m.ars s f) : a.1 ≤ max 4096 f ∧ a.2 ≤ 4096 ∧ f ≤ a.1 ∧ 64 ≤ a.1 := by
 unfold HM.ars arsL at ha
 obtain ⟨k, hk, hak⟩ := List.mem_flatMap.1 ha
 unfold arsAt at hak
 obtain ⟨g, hg, rfl⟩ := List.mem_map.1 hak
 obtain ⟨i, hi, rfl⟩ := List.mem_iff_getElem.1 hg
 have h1 := gap_bd I (k := k) (i := i) hi
 have h2 := I.len64
 rw [List.getD_eq_getElem?_getD, List.getElem?_eq_getElem hi] at h1
 simp only [Option.getD_some] at h1
 unfold areaOf
 simp only
 omega
theorem firstFit_at {xs pre : List (Nat × Nat)} {a : Nat × Nat} {n : Nat} (h : pre ++ [a] <+: xs) (hno : ∀ x ∈ pre, fitA x n = false) (ha : fitA a n = true) : firstFit xs n = a.1 := by
 obtain ⟨t, rfl⟩ := h
 unfold firstFit
 rw [List.append_assoc, List.find?_append, List.find?_eq_none.2 (fun x hx => by simp [hno x hx])]
 simp [ha]
theorem firstFit_no {xs : List (Nat × Nat)} {n : Nat} (hno : ∀ x ∈ xs, fitA x n = false) : firstFit xs n = 0 := by
 unfold firstFit
 rw [List.find?_eq_none.2 (fun x hx => by simp [hno x hx])]
section
variable {w W V : World} {b : HB} {m : HM} {q n : Nat}
theorem a_gaps (s f : Nat) (w : World) :
   Calls Tryz.prog 208 #[.agg #[.pointer (some ⟨b.g, 0, none⟩), .int .i64 (s : Int)], .int .i64 (f : Int)] w fun e w' => e = .returned (.func (.func 209) #[] #[.pointer (some ⟨w.heap.size, 0, none⟩), .pointer (some ⟨w.heap.size + 1, 0, none⟩)]) ∧ w' = (w.alloc (.cells #[.pointer (some ⟨b.g, 0, none⟩), .int .i64 (s : Int)] 118)).alloc (.cells #[.int .i64 (f : Int)] 3) := by
 go_enter Tryz.func208, Tryz.ntmps208
 go_wp2
 go_ret
 exact ⟨rfl, rfl⟩
end
end Go.Proofs.YthndilllnneijaaGreat
