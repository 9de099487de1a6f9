/-
  The contract of package alloc's lowestGap. Conditions: those that stand in each theorem.
-/
import Derived.Test.YtkkmlllajfafcaaPJk
namespace Go.Proofs.Ytkkmlllajfafcaa
set_option linter.unusedVariables false
set_option linter.unusedSimpArgs false
open Go.RowKit Go.Deep Go.Maps Go.Shelf
attribute [local go_sem] Oper.semAt_some

/-- R speaks of blocks below B alone. -/
def Low (B : Nat) (R : World → Prop) : Prop := ∀ T W W', Kp T W W' → (∀ x ∈ T, B ≤ x) → R W → R W'
theorem Low.and {B : Nat} {R R' : World → Prop} (h : Low B R) (h' : Low B R') : Low B (fun W => R W ∧ R' W) := fun T W W' k hT r => ⟨h T W W' k hT r.1, h' T W W' k hT r.2⟩
theorem Low.pure (B : Nat) (p : Prop) : Low B (fun _ => p) := fun _ _ _ _ _ r => r
theorem Low.blk {B g : Nat} (hg : g < B) (t : TypeId) (cs : Array Value) : Low B (fun W => Blk W g t cs) := fun T W W' k hT r => r.kp k (fun hm => by have := hT g hm; omega)
theorem Low.sh {B : Nat} {b : HB} (hb : ∀ x ∈ b.all, x < B) (q : Nat) (m : HM) : Low B (fun W => SH W b q m) := fun T W W' k hT r => r.kp k (fun x hx hm => by have := hT x hm; have := hb x hx; omega)
theorem Low.patG {B : Nat} {b : HB} {q : Nat} {m : HM} {s f Br Bf : Nat} (hb : ∀ x ∈ b.all, x < B) (hr : Br < B) (hf : Bf < B) : Low B (PatG b q m s f Br Bf) := fun T W W' k hT r =>
  ⟨Low.sh hb q m T W W' k hT r.sh, Low.blk hr _ _ T W W' k hT r.br, Low.blk hf _ _ T W W' k hT r.bf⟩
/-- Between two rounds of a call's outermost loop: S are the iterator's blocks, B the loop's first. -/
structure OL (w : World) (B : Nat) (R : World → Prop) (S : List Nat) (W : World) : Prop where
  r : R W
  lo : ∀ x ∈ S, B ≤ x
  lt : B + 1 < W.heap.size
  kp : Kp [] w W
theorem OL.bears {w W W' : World} {B : Nat} {R : World → Prop} {S : List Nat} (hR : Low B R) (hw : w.heap.size ≤ B) (h : OL w B R S W) (K : Kp S W W') : OL w B R (nwBl W W' ++ S) W' := by
  refine ⟨hR _ _ _ K h.lo h.r, fun x hx => ?_, Nat.lt_of_lt_of_le h.lt K.size, h.kp.trans K (U := []) (by simp) (fun x hx => .inr (Nat.le_trans hw (h.lo x hx)))⟩
  rcases List.mem_append.1 hx with h1 | h1
  · have := (mem_nwBl.1 h1).1; have := h.lt; omega
  · exact h.lo x h1
theorem Kp.putAt (W : World) (l : Nat) (o : Obj) : Kp [l] W (W.putObj l o) := ⟨rfl, rfl, rfl, by simp, fun k _ hn => World.putObj_heap_other (fun e => hn (by simp [e]))⟩
theorem OL.put {w W : World} {B : Nat} {R : World → Prop} {S : List Nat} (hR : Low B R) (hw : w.heap.size ≤ B) (h : OL w B R S W) (x : Nat) (hx : B ≤ x) (o' : Obj) : OL w B R S (W.putObj x o') :=
  ⟨hR _ _ _ (Kp.putAt W x o') (by simpa using hx) h.r, h.lo, Nat.lt_of_lt_of_le h.lt (Kp.putAt W x o').size, h.kp.trans (Kp.putAt W x o') (U := []) (by simp) (fun y hy => .inr (by simp at hy; subst hy; omega))⟩
theorem OL.start {w W : World} {B : Nat} {R : World → Prop} (hR : Low B R) (hB : W.heap.size = B) (h : R W) (k : Kp [] w W) (o o' : Obj) : OL w B R [] ((W.alloc o).alloc o') := by
  have k2 := (Kp.new W o).chain (Kp.new (W.alloc o) o')
  exact ⟨hR _ _ _ k2 (by simp) h, by simp, by simp; omega, k.chain k2⟩
theorem OL.step {w W W' : World} {B : Nat} {R : World → Prop} {S : List Nat} (hR : Low B R) (h : OL w B R S W) (K : Kp [] W W') : OL w B R S W' :=
  ⟨hR _ _ _ K (by simp) h.r, h.lo, Nat.lt_of_lt_of_le h.lt K.size, h.kp.chain K⟩
theorem OL.to {w W W' : World} {B : Nat} {R R' : World → Prop} {S T : List Nat} (h : OL w B R S W) (K : Kp T W W') (hT : ∀ x ∈ T, w.heap.size ≤ x) (r : R' W') : OL w B R' S W' :=
  ⟨r, h.lo, Nat.lt_of_lt_of_le h.lt K.size, h.kp.trans K (U := []) (by simp) (fun x hx => .inr (hT x hx))⟩
theorem OL.kps {w W W' : World} {B : Nat} {R : World → Prop} {S T : List Nat} (h : OL w B R S W) (K : Kp T W W') (hT : ∀ x ∈ T, x < B) : KpS [B, B + 1] W W' ∧ KpS S W W' :=
  ⟨KpS.of_kp K (fun x hx hm => by have := hT x hx; simp at hm; omega), KpS.of_kp K (fun x hx hm => by have := hT x hx; have := h.lo x hm; omega)⟩
theorem ars_bd {m : HM} (I : m.Inv) {s f : Nat} {a : Nat × Nat} (ha : a ∈ m.ars s f) : a.1 ≤ max 4096 f ∧ a.2 ≤ 4096 ∧ f ≤ a.1 ∧ 64 ≤ a.1 := by
  unfold HM.ars arsL at ha
  obtain ⟨k, hk, hak⟩ := List.mem_flatMap.1 ha
  unfold arsAt at hak
  obtain ⟨g, hg, rfl⟩ := List.mem_map.1 hak
  obtain ⟨i, hi, rfl⟩ := List.mem_iff_getElem.1 hg
  have h1 := gap_bd I (k := k) (i := i) hi
  have h2 := I.len64
  rw [List.getD_eq_getElem?_getD, List.getElem?_eq_getElem hi] at h1
  simp only [Option.getD_some] at h1
  unfold areaOf
  simp only
  omega
theorem firstFit_at {xs pre : List (Nat × Nat)} {a : Nat × Nat} {n : Nat} (h : pre ++ [a] <+: xs) (hno : ∀ x ∈ pre, fitA x n = false) (ha : fitA a n = true) : firstFit xs n = a.1 := by
  obtain ⟨t, rfl⟩ := h
  unfold firstFit
  rw [List.append_assoc, List.find?_append, List.find?_eq_none.2 (fun x hx => by simp [hno x hx])]
  simp [ha]
theorem firstFit_no {xs : List (Nat × Nat)} {n : Nat} (hno : ∀ x ∈ xs, fitA x n = false) : firstFit xs n = 0 := by
  unfold firstFit
  rw [List.find?_eq_none.2 (fun x hx => by simp [hno x hx])]
section
variable {w W V : World} {b : HB} {m : HM} {q n : Nat}
theorem a_gaps (s f : Nat) (w : World) :
    Calls Try.prog 89 #[.agg #[.pointer (some ⟨b.g, 0, none⟩), .int .i64 (s : Int)], .int .i64 (f : Int)] w fun e w' => e = .returned (.func (.func 90) #[] #[.pointer (some ⟨w.heap.size, 0, none⟩), .pointer (some ⟨w.heap.size + 1, 0, none⟩)]) ∧ w' = (w.alloc (.cells #[.pointer (some ⟨b.g, 0, none⟩), .int .i64 (s : Int)] 27)).alloc (.cells #[.int .i64 (f : Int)] 3) := by
  go_enter Try.func89, Try.ntmps89
  go_wp2
  go_ret
  exact ⟨rfl, rfl⟩
end
end Go.Proofs.Ytkkmlllajfafcaa
/-
  The contract of package alloc's lowestGap. Conditions: those that stand in each theorem.
-/
namespace Go.Proofs.Ytkkmlllajfafcaa
set_option linter.unusedVariables false
set_option linter.unusedSimpArgs false
open Go.RowKit Go.Deep Go.Maps Go.Shelf
attribute [local go_sem] Oper.semAt_some

section
variable {w W V : World} {b : HB} {m : HM} {q : Nat}
set_option maxRecDepth 100000 in
set_option maxHeartbeats 4000000 in
theorem a_lowestGap (h : SH w b q m) (s f n : Nat) (hf : f ≤ 10000) (hn : n ≤ 10000) :
    Calls Try.prog 88 #[.agg #[.pointer (some ⟨b.g, 0, none⟩), .int .i64 (s : Int)], .int .i64 (f : Int), .int .i64 (n : Int)] w fun e w' => e = .returned (.int .i64 (m.lowG s f n : Int)) ∧ Kp [] w w' := by
  have HINV := hid h.inv
  have HLT := hid h.lt
  have HSH := hid h
  clear h
  refine (callsIn_wide (n := 3)).1 ?_
  refine callsIn_of_wp_marks Try.func88 rfl trivial ?_ rfl
  simp only [Try.ntmps88, List.size_toArray, List.length_cons, List.length_nil, Nat.reduceAdd, Nat.reduceSub, Array.replicate_succ, Array.replicate_zero, List.push_toArray, List.append_toArray, List.nil_append, List.cons_append]
  gi_wp2
  refine ⟨trivial, ?_⟩
  refine (callsIn_wide.2 (a_gaps s f _)).mono ?_
  rintro e w2 ⟨rfl, rfl⟩
  gi_wp2
  obtain ⟨w0, hw0⟩ : ∃ w0, w0 = (((((w.alloc (.cells #[.pointer (some ⟨b.g, 0, none⟩), .int .i64 (s : Int)] 27)).alloc (.cells #[.int .i64 (n : Int)] 3)).alloc (.cells #[.int .i64 0] 3)).alloc (.cells #[.pointer (some ⟨b.g, 0, none⟩), .int .i64 (s : Int)] 27)).alloc (.cells #[.int .i64 (f : Int)] 3)) := ⟨_, rfl⟩
  have hsz : w0.heap.size = w.heap.size + 5 := by rw [hw0]; simp
  have K0 : Kp [] w w0 := by rw [hw0]; exact ((((Kp.new _ _).chain (Kp.new _ _)).chain (Kp.new _ _)).chain (Kp.new _ _)).chain (Kp.new _ _)
  have hbl : ∀ x ∈ b.all, x < w.heap.size + 5 := fun x hx => by have := HLT.out x hx; omega
  have B5 : Blk w0 (w.heap.size + 1) 3 #[.int .i64 (n : Int)] := by
    rw [hw0]
    have := (((Blk.new (w.alloc (.cells #[.pointer (some ⟨b.g, 0, none⟩), .int .i64 (s : Int)] 27)) 3 #[.int .i64 (n : Int)]).kp (Kp.new _ (.cells #[.int .i64 0] 3)) (by simp)).kp (Kp.new _ (.cells #[.pointer (some ⟨b.g, 0, none⟩), .int .i64 (s : Int)] 27)) (by simp)).kp (Kp.new _ (.cells #[.int .i64 (f : Int)] 3)) (by simp)
    simpa using this
  have B6 : Blk w0 (w.heap.size + 1 + 1) 3 #[.int .i64 0] := by
    rw [hw0]
    have := ((Blk.new ((w.alloc (.cells #[.pointer (some ⟨b.g, 0, none⟩), .int .i64 (s : Int)] 27)).alloc (.cells #[.int .i64 (n : Int)] 3)) 3 #[.int .i64 0]).kp (Kp.new _ (.cells #[.pointer (some ⟨b.g, 0, none⟩), .int .i64 (s : Int)] 27)) (by simp)).kp (Kp.new _ (.cells #[.int .i64 (f : Int)] 3)) (by simp)
    simpa using this
  have Br : Blk w0 (w.heap.size + 1 + 1 + 1) 27 #[.pointer (some ⟨b.g, 0, none⟩), .int .i64 (s : Int)] := by
    rw [hw0]
    have := (Blk.new (((w.alloc (.cells #[.pointer (some ⟨b.g, 0, none⟩), .int .i64 (s : Int)] 27)).alloc (.cells #[.int .i64 (n : Int)] 3)).alloc (.cells #[.int .i64 0] 3)) 27 #[.pointer (some ⟨b.g, 0, none⟩), .int .i64 (s : Int)]).kp (Kp.new _ (.cells #[.int .i64 (f : Int)] 3)) (by simp)
    simpa using this
  have Bf : Blk w0 (w.heap.size + 1 + 1 + 1 + 1) 3 #[.int .i64 (f : Int)] := by
    rw [hw0]
    have := Blk.new ((((w.alloc (.cells #[.pointer (some ⟨b.g, 0, none⟩), .int .i64 (s : Int)] 27)).alloc (.cells #[.int .i64 (n : Int)] 3)).alloc (.cells #[.int .i64 0] 3)).alloc (.cells #[.pointer (some ⟨b.g, 0, none⟩), .int .i64 (s : Int)] 27)) 3 #[.int .i64 (f : Int)]
    simpa using this
  rw [← hw0]
  obtain ⟨R, hR⟩ : ∃ R : List (Nat × Nat) → World → Prop, R = fun pre W => PatG b q m s f (w.heap.size + 1 + 1 + 1) (w.heap.size + 1 + 1 + 1 + 1) W ∧ (Blk W (w.heap.size + 1) 3 #[.int .i64 (n : Int)] ∧ (Blk W (w.heap.size + 1 + 1) 3 #[.int .i64 0] ∧ (∀ a ∈ pre, fitA a n = false))) := ⟨_, rfl⟩
  have HRD := hid hR
  have hLR : ∀ pre, Low (w.heap.size + 5) (R pre) := fun pre => by rw [hR]; exact (Low.patG hbl (by omega) (by omega)).and ((Low.blk (by omega) _ _).and ((Low.blk (by omega) _ _).and (Low.pure _ _)))
  have hLX : Low (w.heap.size + 5) (fun W => Blk W (w.heap.size + 1 + 1) 3 #[.int .i64 (m.lowG s f n : Int)]) := Low.blk (by omega) _ _
  have hR0 : R [] w0 := by rw [hR]; exact ⟨⟨HSH.out.k0 K0, Br, Bf⟩, B5, B6, by simp⟩
  have HLR := hid hLR
  have HLX := hid hLX
  have HR0 := hid hR0
  have HK0 := hid K0
  have HSZ := hid hsz
  have HW5 : Hid (w.heap.size ≤ w.heap.size + 5) := by show _ ≤ _; omega
  clear hw0 hsz K0 hbl B5 B6 Br Bf hR hLR hLX hR0
  refine range_yields rfl (by omega) (gf := 90) (cv := #[]) (lb := #[.pointer (some ⟨w.heap.size + 1 + 1 + 1, 0, none⟩), .pointer (some ⟨w.heap.size + 1 + 1 + 1 + 1, 0, none⟩)]) rfl trivial (enters_of Try.func90 (by kernel_rfl) rfl)
    (gaps_yields s f (w.heap.size + 1 + 1 + 1) (w.heap.size + 1 + 1 + 1 + 1) hf (by omega)) (fun _ => rfl)
    (fun pre S W => OL w (w.heap.size + 5) (R pre) S W)
    (fun c pre S W => c = .ret ∧ OL w (w.heap.size + 5) (fun W => Blk W (w.heap.size + 1 + 1) 3 #[.int .i64 (m.lowG s f n : Int)]) S W)
    (fun pre S W h => by have := h.r; rw [HRD.out] at this; exact this.1)
    (fun pre S W W' h K => h.bears (HLR.out _) HW5.out K)
    (fun c pre S W W' h K => ⟨h.1, h.2.bears HLX.out HW5.out K⟩)
    (fun pre S W o o' h _ _ => h.put (HLR.out _) HW5.out _ (by rw [HSZ.out]; omega) _)
    (fun c pre S W o o' h _ _ => ⟨h.1, h.2.put HLX.out HW5.out _ (by rw [HSZ.out]; omega) _⟩)
    (fun o o' _ _ => OL.start (HLR.out _) HSZ.out HR0.out HK0.out o o')
    (fun x a' W => ∃ Bx, Blk W Bx 29 #[.int .i64 (x.1 : Int), .int .i64 (x.2 : Int)] ∧ a' = { tmps := #[.agg #[.pointer (some ⟨b.g, 0, none⟩), .int .i64 (s : Int)], .int .i64 (f : Int), .int .i64 (n : Int), .pointer (some ⟨w.heap.size, 0, none⟩), undef, .pointer (some ⟨w.heap.size + 1, 0, none⟩), .pointer (some ⟨w.heap.size + 1 + 1, 0, none⟩), .pointer (some ⟨Bx, 0, none⟩), .agg #[.pointer (some ⟨b.g, 0, none⟩), .int .i64 (s : Int)], .int .i64 (f : Int), .func (.func 90) #[] #[.pointer (some ⟨w.heap.size + 1 + 1 + 1, 0, none⟩), .pointer (some ⟨w.heap.size + 1 + 1 + 1 + 1, 0, none⟩)], .agg #[.int .i64 (x.1 : Int), .int .i64 (x.2 : Int)], undef, undef, undef, undef, undef], defers := [] })
    (fun x a' W o o' h ho hc => by
      obtain ⟨Bx, hb, e⟩ := h
      refine ⟨Bx, hb.kp (Kp.putAt W _ o') (fun hm => ?_), e⟩
      simp only [List.mem_singleton] at hm
      unfold Blk at hb
      rw [hm, ho] at hb
      cases hb; cases hc) ?assign ?body ?done ?stop
  case assign =>
    intro l' pre x S W K hI hK
    obtain ⟨x, y⟩ := x
    have HK := hid hK
    have HI := hid hI
    clear hK hI
    gi_wp2
    have kn : Kp [] W (W.alloc (.cells #[.int .i64 (x : Int), .int .i64 (y : Int)] 29)) := Kp.new _ _
    exact HK.out _ _ (KpS.of_kp0 kn) (KpS.of_kp0 kn) (HI.out.step (HLR.out _) kn) ⟨W.heap.size, Blk.new _ _ _, rfl⟩
  case body =>
    rintro l' pre ⟨x, y⟩ S a' W hI ⟨Bx, hbx, rfl⟩ hpre
    have hbd := ars_bd HINV.out (show (x, y) ∈ m.ars s f from hpre.subset (by simp))
    have hrr := hI.r
    rw [HRD.out] at hrr
    obtain ⟨hpat, b5, b6, hno⟩ := hrr
    have c0 := hbx.cell 0
    have c1 := hbx.cell 1
    have d0 := b5.cell 0
    have HI := hid hI
    have HNO := hid hno
    have HB6 := hid b6
    have HPRE := hid hpre
    have hxx : x ≤ 100000 := by simp only at hbd; omega
    have HBX := hid hbx
    clear hI hno b6 hpre hpat b5 hbx hbd
    dsimp only at c0 c1
    rcases hfit : fitA (x, y) n
    · have HF := hid (a_fits x y n W hxx (by omega))
      rw [hfit] at HF
      have HFI := hid hfit
      clear hfit
      gi_wp2
      refine ⟨trivial, ?_⟩
      refine ((callsIn_wide.2 HF.out).inRound l').mono ?_
      rintro e w5 ⟨rfl, K5⟩
      have HI5 := hid (HI.out.to (R' := R (pre ++ [(x, y)])) K5 (by simp) (by
        have hr := HI.out.r
        rw [HRD.out] at hr ⊢
        refine ⟨Low.patG (B := W.heap.size + w.heap.size + 10) (fun z hz => ?_) (by omega) (by omega) [] W w5 K5 (by simp) hr.1, hr.2.1.kp K5 (by simp), hr.2.2.1.kp K5 (by simp), fun a ha => ?_⟩
        · have := HLT.out z hz; omega
        · rcases List.mem_append.1 ha with h1 | h1
          · exact hr.2.2.2 a h1
          · simp at h1; rw [h1]; exact HFI.out))
      have HKS := hid (HI.out.kps K5 (by simp))
      clear K5
      gi_wp2
      refine ⟨?_, HKS.out.2, HI5.out⟩
      rw [HSZ.out]
      exact HKS.out.1
    · have HF := hid (a_fits x y n W hxx (by omega))
      rw [hfit] at HF
      have HFI := hid hfit
      have HLG : Hid (m.lowG s f n = x) := firstFit_at HPRE.out HNO.out hfit
      clear hfit
      gi_wp2
      refine ⟨trivial, ?_⟩
      refine ((callsIn_wide.2 HF.out).inRound l').mono ?_
      rintro e w5 ⟨rfl, K5⟩
      have B6 := HB6.out.kp K5 (by simp)
      have e0 := B6.cell 0
      have f0 := B6.frozen 0
      have q0 := (HBX.out.kp K5 (by simp)).cell 0
      have HB65 := hid B6
      have HK5 := hid K5
      clear K5 B6
      gi_wp2
      have KC := HK5.out.chain0 (Kp.cell w5 ⟨w.heap.size + 1 + 1, 0, none⟩ (.int .i64 (x : Int)))
      have hks := HI.out.kps KC (by simp)
      refine ⟨?_, hks.2, rfl, HI.out.to KC (by simp; omega) ?_⟩
      · rw [HSZ.out]; exact hks.1
      · rw [HLG.out]
        exact HB65.out.set_ 0 (.int .i64 (x : Int))
  case done =>
    rintro D S W rfl hI hDK
    have hrr := hI.r
    rw [HRD.out] at hrr
    obtain ⟨hpat, b5, b6, hno⟩ := hrr
    have e0 := b6.cell 0
    have f0 := b6.frozen 0
    have HI := hid hI
    have HB6 := hid b6
    have HLG : Hid (m.lowG s f n = 0) := firstFit_no hno
    clear hI hno b6 hpat b5
    gi_wp2
    have KC := Kp.cell W ⟨w.heap.size + 1 + 1, 0, none⟩ (.int .i64 0)
    have hD2 : (W.setCell ⟨w.heap.size + 1 + 1, 0, none⟩ (.int .i64 0)).heap[w0.heap.size]? = some (.deferred (some [])) := (KC.block _ (Array.getElem?_eq_some_iff.1 hDK).1 (by have := HSZ.out; simp; omega)).trans hDK
    have B9 := (HB6.out.set_ 0 (.int .i64 0)).kp (Kp.putAt (W.setCell ⟨w.heap.size + 1 + 1, 0, none⟩ (.int .i64 0)) w0.heap.size (.deferred none)) (by have := HSZ.out; simp; omega)
    have K9 := (HI.out.kp.trans KC (U := []) (by simp) (fun x hx => .inr (by simp at hx; omega))).trans (Kp.putAt (W.setCell ⟨w.heap.size + 1 + 1, 0, none⟩ (.int .i64 0)) w0.heap.size (.deferred none)) (U := []) (by simp) (fun x hx => .inr (by have := HSZ.out; simp at hx; omega))
    refine ⟨by simp, .inl ⟨_, _, rfl, run_takeDeferred hD2, ?_⟩⟩
    generalize (W.setCell ⟨w.heap.size + 1 + 1, 0, none⟩ (.int .i64 0)).putObj w0.heap.size (.deferred none) = W9 at B9 K9 ⊢
    have q0 : W9.cell? ⟨w.heap.size + 1 + 1, 0, none⟩ = some (.int .i64 0) := B9.cell 0
    refine ⟨.int .i64 0, ?_, by rw [HLG.out]; rfl, K9⟩
    simp [results, Try.results88, q0, go_sem]
  case stop =>
    rintro D c pre S W rfl hpre ⟨rfl, h⟩ hDK
    have HH := hid h
    clear h
    gi_wp2
    refine ⟨by simp, .inl ⟨_, _, rfl, run_takeDeferred hDK, ?_⟩⟩
    have B9 := HH.out.r.kp (Kp.putAt W w0.heap.size (.deferred none)) (by have := HSZ.out; simp; omega)
    have K9 := HH.out.kp.trans (Kp.putAt W w0.heap.size (.deferred none)) (U := []) (by simp) (fun x hx => .inr (by have := HSZ.out; simp at hx; omega))
    generalize W.putObj w0.heap.size (.deferred none) = W9 at B9 K9 ⊢
    have q0 : W9.cell? ⟨w.heap.size + 1 + 1, 0, none⟩ = some (.int .i64 (m.lowG s f n : Int)) := B9.cell 0
    refine ⟨.int .i64 (m.lowG s f n : Int), ?_, rfl, K9⟩
    simp [results, Try.results88, q0, go_sem]
end
end Go.Proofs.Ytkkmlllajfafcaa
/-
  The contract of package alloc's leastGap. Conditions: those that stand in each theorem.
-/
namespace Go.Proofs.Ytkkmlllajfafcaa
set_option linter.unusedVariables false
set_option linter.unusedSimpArgs false
open Go.RowKit Go.Deep Go.Maps Go.Shelf
attribute [local go_sem] Oper.semAt_some

theorem ars_le {m : HM} (I : m.Inv) {s : Nat} {a : Nat × Nat} (ha : a ∈ m.ars s 0) : a.1 + 1 ≤ a.2 ∧ a.2 - a.1 ≤ 64 := by
  unfold HM.ars arsL at ha
  obtain ⟨k, hk, hak⟩ := List.mem_flatMap.1 ha
  unfold arsAt at hak
  obtain ⟨g, hg, rfl⟩ := List.mem_map.1 hak
  obtain ⟨i, hi, rfl⟩ := List.mem_iff_getElem.1 hg
  have h1 := gap_bd I (k := k) (i := i) hi
  rw [List.getD_eq_getElem?_getD, List.getElem?_eq_getElem hi] at h1
  simp only [Option.getD_some] at h1
  unfold areaOf
  simp only
  omega
section
variable {w W V : World} {b : HB} {m : HM} {q : Nat}
set_option maxRecDepth 100000 in
set_option maxHeartbeats 4000000 in
theorem a_leastGap (h : SH w b q m) (s n : Nat) (hn : n ≤ 10000) :
    Calls Try.prog 99 #[.agg #[.pointer (some ⟨b.g, 0, none⟩), .int .i64 (s : Int)], .int .i64 (n : Int)] w fun e w' => e = .returned (.int .i64 (m.leastG s n : Int)) ∧ Kp [] w w' := by
  have HINV := hid h.inv
  have HLT := hid h.lt
  have HSH := hid h
  clear h
  refine (callsIn_wide (n := 3)).1 ?_
  refine callsIn_of_wp_marks Try.func99 rfl trivial ?_ rfl
  simp only [Try.ntmps99, List.size_toArray, List.length_cons, List.length_nil, Nat.reduceAdd, Nat.reduceSub, Array.replicate_succ, Array.replicate_zero, List.push_toArray, List.append_toArray, List.nil_append, List.cons_append]
  gi_wp2
  refine ⟨trivial, ?_⟩
  refine (callsIn_wide.2 (a_gaps s 0 _)).mono ?_
  rintro e w2 ⟨rfl, rfl⟩
  gi_wp2
  obtain ⟨w0, hw0⟩ : ∃ w0, w0 = ((((((w.alloc (.cells #[.pointer (some ⟨b.g, 0, none⟩), .int .i64 (s : Int)] 27)).alloc (.cells #[.int .i64 (n : Int)] 3)).alloc (.cells #[.int .i64 0] 3)).alloc (.cells #[.int .i64 65] 3)).alloc (.cells #[.pointer (some ⟨b.g, 0, none⟩), .int .i64 (s : Int)] 27)).alloc (.cells #[.int .i64 ((0 : Nat) : Int)] 3)) := ⟨_, rfl⟩
  have hsz : w0.heap.size = w.heap.size + 6 := by rw [hw0]; simp
  have K0 : Kp [] w w0 := by rw [hw0]; exact (((((Kp.new _ _).chain (Kp.new _ _)).chain (Kp.new _ _)).chain (Kp.new _ _)).chain (Kp.new _ _)).chain (Kp.new _ _)
  have hbl : ∀ x ∈ b.all, x < w.heap.size + 6 := fun x hx => by have := HLT.out x hx; omega
  have B3 : Blk w0 (w.heap.size + 1) 3 #[.int .i64 (n : Int)] := by
    rw [hw0]
    have := ((((Blk.new (w.alloc (.cells #[.pointer (some ⟨b.g, 0, none⟩), .int .i64 (s : Int)] 27)) 3 #[.int .i64 (n : Int)]).kp (Kp.new _ (.cells #[.int .i64 0] 3)) (by simp)).kp (Kp.new _ (.cells #[.int .i64 65] 3)) (by simp)).kp (Kp.new _ (.cells #[.pointer (some ⟨b.g, 0, none⟩), .int .i64 (s : Int)] 27)) (by simp)).kp (Kp.new _ (.cells #[.int .i64 ((0 : Nat) : Int)] 3)) (by simp)
    simpa using this
  have B5 : Blk w0 (w.heap.size + 1 + 1) 3 #[.int .i64 ((0 : Nat) : Int)] := by
    rw [hw0]
    have := (((Blk.new ((w.alloc (.cells #[.pointer (some ⟨b.g, 0, none⟩), .int .i64 (s : Int)] 27)).alloc (.cells #[.int .i64 (n : Int)] 3)) 3 #[.int .i64 0]).kp (Kp.new _ (.cells #[.int .i64 65] 3)) (by simp)).kp (Kp.new _ (.cells #[.pointer (some ⟨b.g, 0, none⟩), .int .i64 (s : Int)] 27)) (by simp)).kp (Kp.new _ (.cells #[.int .i64 ((0 : Nat) : Int)] 3)) (by simp)
    simpa using this
  have B6 : Blk w0 (w.heap.size + 1 + 1 + 1) 3 #[.int .i64 ((65 : Nat) : Int)] := by
    rw [hw0]
    have := ((Blk.new (((w.alloc (.cells #[.pointer (some ⟨b.g, 0, none⟩), .int .i64 (s : Int)] 27)).alloc (.cells #[.int .i64 (n : Int)] 3)).alloc (.cells #[.int .i64 0] 3)) 3 #[.int .i64 65]).kp (Kp.new _ (.cells #[.pointer (some ⟨b.g, 0, none⟩), .int .i64 (s : Int)] 27)) (by simp)).kp (Kp.new _ (.cells #[.int .i64 ((0 : Nat) : Int)] 3)) (by simp)
    simpa using this
  have Br : Blk w0 (w.heap.size + 1 + 1 + 1 + 1) 27 #[.pointer (some ⟨b.g, 0, none⟩), .int .i64 (s : Int)] := by
    rw [hw0]
    have := (Blk.new ((((w.alloc (.cells #[.pointer (some ⟨b.g, 0, none⟩), .int .i64 (s : Int)] 27)).alloc (.cells #[.int .i64 (n : Int)] 3)).alloc (.cells #[.int .i64 0] 3)).alloc (.cells #[.int .i64 65] 3)) 27 #[.pointer (some ⟨b.g, 0, none⟩), .int .i64 (s : Int)]).kp (Kp.new _ (.cells #[.int .i64 ((0 : Nat) : Int)] 3)) (by simp)
    simpa using this
  have Bf : Blk w0 (w.heap.size + 1 + 1 + 1 + 1 + 1) 3 #[.int .i64 ((0 : Nat) : Int)] := by
    rw [hw0]
    have := Blk.new (((((w.alloc (.cells #[.pointer (some ⟨b.g, 0, none⟩), .int .i64 (s : Int)] 27)).alloc (.cells #[.int .i64 (n : Int)] 3)).alloc (.cells #[.int .i64 0] 3)).alloc (.cells #[.int .i64 65] 3)).alloc (.cells #[.pointer (some ⟨b.g, 0, none⟩), .int .i64 (s : Int)] 27)) 3 #[.int .i64 ((0 : Nat) : Int)]
    simpa using this
  have hgo : ∀ (x y : World), x = y → x = y := fun _ _ h => h
  rw [show ((((((w.alloc (.cells #[.pointer (some ⟨b.g, 0, none⟩), .int .i64 (s : Int)] 27)).alloc (.cells #[.int .i64 (n : Int)] 3)).alloc (.cells #[.int .i64 0] 3)).alloc (.cells #[.int .i64 65] 3)).alloc (.cells #[.pointer (some ⟨b.g, 0, none⟩), .int .i64 (s : Int)] 27)).alloc (.cells #[.int .i64 0] 3)) = w0 from hw0.symm]
  obtain ⟨R, hR⟩ : ∃ R : List (Nat × Nat) → World → Prop, R = fun pre W => PatG b q m s 0 (w.heap.size + 1 + 1 + 1 + 1) (w.heap.size + 1 + 1 + 1 + 1 + 1) W ∧ (Blk W (w.heap.size + 1) 3 #[.int .i64 (n : Int)] ∧ (Blk W (w.heap.size + 1 + 1) 3 #[.int .i64 ((pre.foldl (leastStep n) (0, 65)).1 : Int)] ∧ Blk W (w.heap.size + 1 + 1 + 1) 3 #[.int .i64 ((pre.foldl (leastStep n) (0, 65)).2 : Int)])) := ⟨_, rfl⟩
  have HRD := hid hR
  have hLR : ∀ pre, Low (w.heap.size + 6) (R pre) := fun pre => by rw [hR]; exact (Low.patG hbl (by omega) (by omega)).and ((Low.blk (by omega) _ _).and ((Low.blk (by omega) _ _).and (Low.blk (by omega) _ _)))
  have hR0 : R [] w0 := by rw [hR]; exact ⟨⟨HSH.out.k0 K0, Br, Bf⟩, B3, B5, B6⟩
  have HLR := hid hLR
  have HR0 := hid hR0
  have HK0 := hid K0
  have HSZ := hid hsz
  have HW5 : Hid (w.heap.size ≤ w.heap.size + 6) := by show _ ≤ _; omega
  clear hw0 hsz K0 hbl B3 B5 B6 Br Bf hR hLR hR0 hgo
  refine range_yields rfl (by omega) (gf := 90) (cv := #[]) (lb := #[.pointer (some ⟨w.heap.size + 1 + 1 + 1 + 1, 0, none⟩), .pointer (some ⟨w.heap.size + 1 + 1 + 1 + 1 + 1, 0, none⟩)]) rfl trivial (enters_of Try.func90 (by kernel_rfl) rfl)
    (gaps_yields s 0 (w.heap.size + 1 + 1 + 1 + 1) (w.heap.size + 1 + 1 + 1 + 1 + 1) (by omega) (by omega)) (fun _ => rfl)
    (fun pre S W => OL w (w.heap.size + 6) (R pre) S W)
    (fun c pre S W => False)
    (fun pre S W h => by have := h.r; rw [HRD.out] at this; exact this.1)
    (fun pre S W W' h K => h.bears (HLR.out _) HW5.out K)
    (fun c pre S W W' h K => h)
    (fun pre S W o o' h _ _ => h.put (HLR.out _) HW5.out _ (by rw [HSZ.out]; omega) _)
    (fun c pre S W o o' h _ _ => h)
    (fun o o' _ _ => OL.start (HLR.out _) HSZ.out HR0.out HK0.out o o')
    (fun x a' W => ∃ Bx, Blk W Bx 29 #[.int .i64 (x.1 : Int), .int .i64 (x.2 : Int)] ∧ a' = { tmps := #[.agg #[.pointer (some ⟨b.g, 0, none⟩), .int .i64 (s : Int)], .int .i64 (n : Int), .pointer (some ⟨w.heap.size, 0, none⟩), .pointer (some ⟨w.heap.size + 1, 0, none⟩), .int .i64 0, .pointer (some ⟨w.heap.size + 1 + 1, 0, none⟩), .pointer (some ⟨w.heap.size + 1 + 1 + 1, 0, none⟩), .pointer (some ⟨Bx, 0, none⟩), undef, .agg #[.pointer (some ⟨b.g, 0, none⟩), .int .i64 (s : Int)], .func (.func 90) #[] #[.pointer (some ⟨w.heap.size + 1 + 1 + 1 + 1, 0, none⟩), .pointer (some ⟨w.heap.size + 1 + 1 + 1 + 1 + 1, 0, none⟩)], .agg #[.int .i64 (x.1 : Int), .int .i64 (x.2 : Int)], undef, undef, undef, undef, undef, undef, undef, undef, undef, undef, undef, undef, undef, undef, undef, undef, undef], defers := [] })
    (fun x a' W o o' h ho hc => by
      obtain ⟨Bx, hb, e⟩ := h
      refine ⟨Bx, hb.kp (Kp.putAt W _ o') (fun hm => ?_), e⟩
      simp only [List.mem_singleton] at hm
      unfold Blk at hb
      rw [hm, ho] at hb
      cases hb; cases hc) ?assign ?body ?done ?stop
  case assign =>
    intro l' pre x S W K hI hK
    obtain ⟨x, y⟩ := x
    have HK := hid hK
    have HI := hid hI
    clear hK hI
    gi_wp2
    have kn : Kp [] W (W.alloc (.cells #[.int .i64 (x : Int), .int .i64 (y : Int)] 29)) := Kp.new _ _
    exact HK.out _ _ (KpS.of_kp0 kn) (KpS.of_kp0 kn) (HI.out.step (HLR.out _) kn) ⟨W.heap.size, Blk.new _ _ _, rfl⟩
  case body =>
    rintro l' pre ⟨x, y⟩ S a' W hI ⟨Bx, hbx, rfl⟩ hpre
    have hmem : (x, y) ∈ m.ars s 0 := hpre.subset (by simp)
    have hbd := ars_bd HINV.out hmem
    have hle := ars_le HINV.out hmem
    have hrr := hI.r
    rw [HRD.out] at hrr
    obtain ⟨hpat, b3, b5, b6⟩ := hrr
    obtain ⟨ad, le, hst⟩ : ∃ ad le, pre.foldl (leastStep n) (0, 65) = (ad, le) := ⟨_, _, rfl⟩
    rw [hst] at b5 b6
    have c0 := hbx.cell 0
    have c1 := hbx.cell 1
    have d0 := b3.cell 0
    have e0 := b5.cell 0
    have g0 := b6.cell 0
    have HI := hid hI
    have HB5 := hid b5
    have HB6 := hid b6
    have HST := hid hst
    simp only at hbd hle
    have hxx : x ≤ 100000 := by omega
    have hyy : y ≤ 100000 := by omega
    have HBX := hid hbx
    have HSTEP : Hid ((pre ++ [(x, y)]).foldl (leastStep n) (0, 65) = leastStep n (ad, le) (x, y)) := by show _ = _; rw [List.foldl_append, HST.out]; rfl
    have hxy : x ≤ y := by omega
    clear hI b5 b6 hpre hpat b3 hbx hbd hmem hst hle
    dsimp only at c0 c1
    rcases hfit : fitA (x, y) n
    · have HF := hid (fun W => a_fits x y n W hxx (by omega))
      have HFI := hid hfit
      have HS2 : Hid (leastStep n (ad, le) (x, y) = (ad, le)) := by show _ = _; unfold leastStep; rw [hfit, if_neg (by simp)]
      clear hfit
      gi_wp2
      refine ⟨trivial, ?_⟩
      refine ((callsIn_wide.2 (HF.out _)).inRound l').mono ?_
      rintro e w5 ⟨rfl, K5⟩
      rw [HFI.out]
      have HI5 := hid (HI.out.to (R' := R (pre ++ [(x, y)])) K5 (by simp) (by
        have hr := HI.out.step (HLR.out _) K5 |>.r
        rw [HRD.out] at hr ⊢
        simp only at hr ⊢
        rw [HSTEP.out, HS2.out]
        rw [HST.out] at hr
        exact hr))
      have HKS := hid (HI.out.kps K5 (by simp))
      clear K5
      gi_wp2
      refine ⟨?_, HKS.out.2, HI5.out⟩
      rw [HSZ.out]
      exact HKS.out.1
    · have HF := hid (fun W => a_fits x y n W hxx (by omega))
      have HFI := hid hfit
      by_cases hlt : y - x < le
      · have HS2 : Hid (leastStep n (ad, le) (x, y) = (x, y - x)) := by show _ = _; unfold leastStep; rw [hfit, if_pos ⟨rfl, hlt⟩]
        have t : decide ((y : Int) - (x : Int) < (le : Int)) = true := decide_eq_true (by omega)
        clear hfit hlt
        gi_wp2
        refine ⟨trivial, ?_⟩
        refine ((callsIn_wide.2 (HF.out _)).inRound l').mono ?_
        rintro e w5 ⟨rfl, K5⟩
        rw [HFI.out]
        have B5 := HB5.out.kp K5 (by simp)
        have B6 := HB6.out.kp K5 (by simp)
        have e5 := B5.cell 0
        have f5 := B5.frozen 0
        have e6 := B6.cell 0
        have f6 := B6.frozen 0
        have q0 := (HBX.out.kp K5 (by simp)).cell 0
        have HB55 := hid B5
        have HB65 := hid B6
        have HK5 := hid K5
        clear K5 B5 B6
        gi_wp2
        have k1 := Kp.cell w5 ⟨w.heap.size + 1 + 1, 0, none⟩ (.int .i64 (x : Int))
        have k2 := Kp.cell (w5.setCell ⟨w.heap.size + 1 + 1, 0, none⟩ (.int .i64 (x : Int))) ⟨w.heap.size + 1 + 1 + 1, 0, none⟩ (.int .i64 ((y : Int) - (x : Int)))
        have KC : Kp [w.heap.size + 1 + 1, w.heap.size + 1 + 1 + 1] W _ := (HK5.out.chain0 k1).trans k2 (fun z hz => .inl (by rcases List.mem_singleton.1 hz with rfl; simp)) (fun z hz => .inl (by rcases List.mem_singleton.1 hz with rfl; simp))
        have b5 := (HB55.out.set_ 0 (.int .i64 (x : Int))).kp k2 (by simp)
        have b6 := (HB65.out.kp k1 (by simp)).set_ 0 (.int .i64 ((y : Int) - (x : Int)))
        have hks := HI.out.kps KC (by simp)
        refine ⟨?_, hks.2, HI.out.to KC (by simp; omega) ?_⟩
        · rw [HSZ.out]; exact hks.1
        · have hr := HI.out.r
          rw [HRD.out] at hr ⊢
          simp only at hr ⊢
          rw [HSTEP.out, HS2.out]
          have hsub : (((y - x : Nat)) : Int) = (y : Int) - (x : Int) := by omega
          refine ⟨⟨hr.1.sh.kp KC (fun z hz hm => ?_), hr.1.br.kp KC (by simp; omega), hr.1.bf.kp KC (by simp; omega)⟩, hr.2.1.kp KC (by simp), b5, by rw [hsub]; exact b6⟩
          have := HLT.out z hz
          simp at hm
          omega
      · have HS2 : Hid (leastStep n (ad, le) (x, y) = (ad, le)) := by show _ = _; unfold leastStep; rw [if_neg (fun h => hlt h.2)]
        have t : decide ((y : Int) - (x : Int) < (le : Int)) = false := decide_eq_false (by omega)
        clear hfit hlt
        gi_wp2
        refine ⟨trivial, ?_⟩
        refine ((callsIn_wide.2 (HF.out _)).inRound l').mono ?_
        rintro e w5 ⟨rfl, K5⟩
        rw [HFI.out]
        have e6 := (HB6.out.kp K5 (by simp)).cell 0
        have HI5 := hid (HI.out.to (R' := R (pre ++ [(x, y)])) K5 (by simp) (by
          have hr := HI.out.step (HLR.out _) K5 |>.r
          rw [HRD.out] at hr ⊢
          simp only at hr ⊢
          rw [HSTEP.out, HS2.out]
          rw [HST.out] at hr
          exact hr))
        have HKS := hid (HI.out.kps K5 (by simp))
        clear K5
        gi_wp2
        refine ⟨?_, HKS.out.2, HI5.out⟩
        rw [HSZ.out]
        exact HKS.out.1
  case done =>
    rintro D S W rfl hI hDK
    have hrr := hI.r
    rw [HRD.out] at hrr
    obtain ⟨hpat, b3, b5, b6⟩ := hrr
    have e0 := b5.cell 0
    have HI := hid hI
    have HLG : Hid (m.leastG s n = ((m.ars s 0).foldl (leastStep n) (0, 65)).1) := rfl
    clear hI hpat b5 b6 b3
    gi_wp2
    have K9 := HI.out.kp.trans (Kp.putAt W w0.heap.size (.deferred none)) (U := []) (by simp) (fun x hx => .inr (by have := HSZ.out; simp at hx; omega))
    refine ⟨by simp, .inl ⟨_, _, rfl, run_takeDeferred hDK, ?_⟩⟩
    exact ⟨_, results_tmp rfl _ _ _, rfl, K9⟩
  case stop =>
    rintro D c pre S W rfl hpre h hDK
    exact h.elim
end
end Go.Proofs.Ytkkmlllajfafcaa
