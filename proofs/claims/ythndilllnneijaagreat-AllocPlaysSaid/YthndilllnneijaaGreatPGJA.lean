/-
  Plain mathematics of an allocator: where each policy places an object. No condition but those stated.
-/
import Derived.Test.YthndilllnneijaaGreatPG19
import Derived.Test.YthndilllnneijaaGreatPU
import Derived.RangeFuncNested
import Derived.RangeFuncBound
import Derived.RangeFuncCalls
import Derived.RangeFuncLeaves
import Derived.Shelf.Abstract
import Derived.Shelf.RegionOpen
import Derived.OwnWalkIn
import Derived.TacticsInMore
import Derived.LoopNIn
import Derived.LoopIn
set_option linter.unusedSimpArgs false
set_option linter.unusedVariables false
set_option maxRecDepth 100000
set_option maxHeartbeats 2000000
namespace Go.Proofs.YthndilllnneijaaGreat
structure AS where
 sp : Nat
 po : Nat
 c : Nat
 l : Nat
 oc : Nat
 ol : Nat
structure AS.Ok (A : AS) : Prop where
 sp : A.sp < 8
 po : A.po < 5
 c : A.c ≤ 8192
 l : A.l ≤ 8192
 oc : A.oc ≤ 8192
 ol : A.ol ≤ 8192
def orN (a b : Nat) : Nat := if a = 0 then b else a
def ownS (m : HM) (s k : Nat) : Bool := decide (m.st k = 1 ∧ m.sp k = s)
def blkS (m : HM) (s n : Nat) : List Nat := (List.range n).filter (ownS m s)
def areaOf (f : Nat) (g : Nat × Nat) : Nat × Nat := (max g.1 f, g.1 + g.2)
def arsAt (m : HM) (f k : Nat) : List (Nat × Nat) := (m.gapL (k : Int)).map (areaOf f)
def arsL (m : HM) (s f n : Nat) : List (Nat × Nat) := (blkS m s n).flatMap (arsAt m f)
def HM.ars (m : HM) (s f : Nat) : List (Nat × Nat) := arsL m s f m.bl.length
def fitA (a : Nat × Nat) (w : Nat) : Bool := decide (a.1 + w ≤ a.2)
def firstFit (l : List (Nat × Nat)) (w : Nat) : Nat := match l.find? (fun a => fitA a w) with | some a => a.1 | none => 0
def HM.lowG (m : HM) (s f w : Nat) : Nat := firstFit (m.ars s f) w
def leastStep (w : Nat) (x : Nat × Nat) (a : Nat × Nat) : Nat × Nat := if fitA a w = true ∧ a.2 - a.1 < x.2 then (a.1, a.2 - a.1) else x
def HM.leastG (m : HM) (s w : Nat) : Nat := ((m.ars s 0).foldl (leastStep w) (0, 65)).1
def frun (m : HM) : Nat → Nat
 | 0 => 0
 | k + 1 => if k = 0 then 0 else if m.st k = 0 then frun m k + 1 else 0
def HM.freeB (m : HM) (c : Nat) : Nat := match leastN (fun k => decide (1 ≤ k) && decide (m.st k = 0) && decide (frun m (k + 1) = c)) m.bl.length with | some k => (k + 1 - c) * 64 | none => 0
def HM.isGapB (m : HM) (s a w : Nat) : Bool := ownS m s (a / 64) && (m.gapL ((a / 64 : Nat) : Int)).any fun g => decide (g.1 ≤ a ∧ a + w ≤ g.1 + g.2)
def takeA (a : Nat × Nat) (w : Nat) : Nat × (Nat × Nat) := (a.1, (a.1 + w, a.2))
def HM.freeA (m : HM) : Nat × Nat := (m.freeB 1, m.freeB 1 + 64)
def HM.bumpA (m : HM) (s : Nat) (a : Nat × Nat) (w : Nat) : Nat × (Nat × Nat) :=
 if fitA a w = true then (if m.isGapB s a.1 w = true then takeA a w else (0, a)) else takeA m.freeA w
def holN (L : List Bool) : Nat → List (Nat × Nat)
 | 0 => []
 | i + 1 => if L.getD i false = true then holN L i else if 0 < i ∧ L.getD (i - 1) false = false then (holN L i).dropLast ++ [(((holN L i).getLastD (0, 0)).1, ((holN L i).getLastD (0, 0)).2 + 1)] else holN L i ++ [(i, 1)]
def holL (L : List Bool) : List (Nat × Nat) := holN L L.length
def holeOf (k : Nat) (h : Nat × Nat) : Nat × Nat := (k * 64 + h.1 * 8, k * 64 + h.1 * 8 + h.2 * 8)
def holsAt (m : HM) (k : Nat) : List (Nat × Nat) := (holL (m.lnL k)).map (holeOf k)
def holsL (m : HM) (s n : Nat) : List (Nat × Nat) := (blkS m s n).flatMap (holsAt m)
def HM.holeA (m : HM) (s f : Nat) : Nat × Nat := match (holsL m s m.bl.length).find? (fun a => decide (f ≤ a.1)) with | some a => a | none => m.freeA
def HM.choose (m : HM) (A : AS) (w : Nat) : Nat × AS :=
 if 32 < w then (m.freeB ((w + 63) / 64), A)
 else if A.po = 0 then (orN (m.lowG A.sp 0 w) (m.freeB 1), A)
 else if A.po = 1 then (orN (m.leastG A.sp w) (m.freeB 1), A)
 else if A.po = 2 then (orN (orN (m.lowG A.sp A.c w) (m.lowG A.sp 0 w)) (m.freeB 1), { A with c := orN (orN (m.lowG A.sp A.c w) (m.lowG A.sp 0 w)) (m.freeB 1) + w })
 else if A.po = 3 then ((m.bumpA A.sp (A.c, A.l) w).1, { A with c := (m.bumpA A.sp (A.c, A.l) w).2.1, l := (m.bumpA A.sp (A.c, A.l) w).2.2 })
 else if A.c + w ≤ A.l then ((m.bumpA A.sp (A.c, A.l) w).1, { A with c := (m.bumpA A.sp (A.c, A.l) w).2.1, l := (m.bumpA A.sp (A.c, A.l) w).2.2 })
 else if 8 < w then ((m.bumpA A.sp (A.oc, A.ol) w).1, { A with oc := (m.bumpA A.sp (A.oc, A.ol) w).2.1, ol := (m.bumpA A.sp (A.oc, A.ol) w).2.2 })
 else ((takeA (m.holeA A.sp A.l) w).1, { A with c := (takeA (m.holeA A.sp A.l) w).2.1, l := (takeA (m.holeA A.sp A.l) w).2.2 })
def HM.forM (m : HM) (s a w : Nat) : HM := if 32 < w then m.claimM ((a / 64 : Nat) : Int) (((w + 63) / 64 : Nat) : Int) (s : Int) 2 else if m.st (a / 64) = 0 then m.claimM ((a / 64 : Nat) : Int) 1 (s : Int) 1 else m
def HM.alV (m : HM) (A : AS) (r d k : Int) : Nat := if vldB r d k then (m.choose A (wdN r.toNat d.toNat)).1 else 0
def HM.alE (m : HM) (A : AS) (r d k : Int) : Int := if vldB r d k then (if (m.choose A (wdN r.toNat d.toNat)).1 = 0 then 6 else 0) else 2
def HM.alM (m : HM) (A : AS) (r d k : Int) : HM := if m.alE A r d k = 0 then (m.forM A.sp (m.alV A r d k) (wdN r.toNat d.toNat)).placeM (m.alV A r d k : Int) r d k else m
def HM.alA (m : HM) (A : AS) (r d k : Int) : AS := if m.alE A r d k = 0 then (m.choose A (wdN r.toNat d.toNat)).2 else A
theorem mem_blkS {m : HM} {s n k : Nat} : k ∈ blkS m s n ↔ k < n ∧ ownS m s k = true := by simp [blkS]
theorem ownS_lt {m : HM} {s k : Nat} (h : ownS m s k = true) : k < m.bl.length := by
 have := of_decide_eq_true h
 exact st_lt (bl := m.bl) (b := k) (by have h1 : m.st k = 1 := this.1; unfold HM.st at h1; omega)
theorem blkS_succ (m : HM) (s n : Nat) : blkS m s (n + 1) = blkS m s n ++ (if ownS m s n = true then [n] else []) := by
 unfold blkS
 rw [List.range_succ, List.filter_append]
 congr 1
 rcases h : ownS m s n <;> simp [h]
theorem blkS_pre (m : HM) (s : Nat) {i j : Nat} (h : i ≤ j) : blkS m s i <+: blkS m s j := by
 induction j with
 | zero => obtain rfl : i = 0 := (by omega); exact List.prefix_refl _
 | succ j ih =>
   by_cases hi : i = j + 1
   · subst hi; exact List.prefix_refl _
   · rw [blkS_succ]; exact (ih (by omega)).trans (List.prefix_append _ _)
open Go.RowKit Go.Shelf
def nwBl (W W' : World) : List Nat := List.range' W.heap.size (W'.heap.size - W.heap.size)
theorem mem_nwBl {W W' : World} {x : Nat} : x ∈ nwBl W W' ↔ W.heap.size ≤ x ∧ x < W'.heap.size := by
 unfold nwBl
 rw [List.mem_range'_1]
 omega
def Bears {α : Type} (J : List α → List Nat → World → Prop) : Prop :=
 ∀ s S W W', J s S W → Kp S W W' → J s (nwBl W W' ++ S) W'
def KpS (S : List Nat) (W W' : World) : Prop := W.heap.size ≤ W'.heap.size ∧ ∀ k ∈ S, k < W.heap.size → W'.heap[k]? = W.heap[k]?
theorem KpS.refl (S : List Nat) (W : World) : KpS S W W := ⟨Nat.le_refl _, fun _ _ _ => rfl⟩
theorem KpS.trans {S : List Nat} {A B C : World} (h : KpS S A B) (k : KpS S B C) : KpS S A C := ⟨Nat.le_trans h.1 k.1, fun i hi hl => (k.2 i hi (Nat.lt_of_lt_of_le hl h.1)).trans (h.2 i hi hl)⟩
theorem KpS.putObj {S : List Nat} (W : World) {l : Nat} (o : Obj) (h : l ∉ S) : KpS S W (W.putObj l o) := ⟨by simp, fun k hk _ => World.putObj_heap_other (fun e => h (e ▸ hk))⟩
theorem KpS.of_kp {S T : List Nat} {W W' : World} (k : Kp T W W') (h : ∀ x ∈ T, x ∉ S) : KpS S W W' := ⟨k.size, fun i hi hl => k.block i hl (fun hm => h i hm hi)⟩
theorem KpS.mono {S T : List Nat} {W W' : World} (k : KpS S W W') (h : ∀ x ∈ T, x ∈ S) : KpS T W W' := ⟨k.1, fun i hi hl => k.2 i (h i hi) hl⟩
def RoundP {α : Type} (J Jx : List α → List Nat → World → Prop) (pre : List α) (S : List Nat) (W1 : World) (e : Ending) (W' : World) : Prop :=
 KpS S W1 W' ∧ ((e = .returned (.bool true) ∧ J pre S W') ∨ (e = .returned (.bool false) ∧ Jx pre S W'))
def Yields {α : Type} (F : Fence) (n : Nat) (P : Program) (g : Nat) (cv lb : Array Value) (encs : α → Array Value) (Pat : World → Prop) (xs : List α) : Prop :=
 ∀ (l : Nat) (J Jx : List α → List Nat → World → Prop) (W : World), Bears J → Bears Jx → (∀ pre S W, J pre S W → Pat W) →
   (∀ pre x S W1, J pre S W1 → pre ++ [x] <+: xs → YieldAt F (n - 1) P l (encs x) W1 (RoundP J Jx (pre ++ [x]) S W1)) →
   J [] [] W → CallsIn F n P g (cv ++ #[.func (.yield l) #[] #[]] ++ lb) W fun e W' => (∃ v, e = .returned v) ∧ ∃ S, J xs S W' ∨ ∃ pre, pre <+: xs ∧ Jx pre S W'
def leftP {α : Type} (B : Nat) (S : List Nat) (I : List α → List Nat → World → Prop) (Ix : Code → List α → List Nat → World → Prop) (pre : List α) (W : World) : Exit → Act → World → Prop
 | .normal, _, W' => KpS [B, B + 1] W W' ∧ KpS S W W' ∧ I pre S W'
 | .ret, _, W' => KpS [B, B + 1] W W' ∧ KpS S W W' ∧ Ix .ret pre S W'
 | .exit id, _, W' => KpS [B, B + 1] W W' ∧ KpS S W W' ∧ Ix (.exit id) pre S W'
 | _, _, _ => False
def Abide {α : Type} (B : Nat) (I : List α → List Nat → World → Prop) : Prop := ∀ pre S W (o o' : Obj), I pre S W → W.heap[B + 1]? = some o → o.isCells = false → I pre S (W.putObj (B + 1) o')
theorem roundIn_any {n k l l0 : Nat} {P : Program} {f : FuncId} {tmps : Array Value} {a b : Code} {w : World} {R : Ending → World → Prop} (h : RoundIn Fence.wide n P l0 f tmps a b w R) : RoundIn (Fence.wide.inRound l) k P l0 f tmps a b w R :=
 ⟨trivial, fun c cs _ => h.2 c cs (fun d hd => by cases hd)⟩
variable {F : Fence} {n : Nat} {P : Program}
theorem range_yields {α : Type} {g : Operand} {ps : Array Tmp} {assign body : Code} {Q : Exit → Act → World → Prop} {a : Act} {w : World}
   (hro : F.round = none) (h1 : 1 ≤ n) {gf : Nat} {cv lb : Array Value} (hg : a.eval g = .func (.func gf) cv lb) (hFg : F.fn gf) (eg : ∀ args w, (callFunc gf args).run P w = .ok (.enter gf args) w)
   {encs : α → Array Value} {Pat : World → Prop} {xs : List α} (hseq : Yields F (n - 1) P gf cv lb encs Pat xs) (hps : ∀ x, (encs x).size = ps.size)
   (I : List α → List Nat → World → Prop) (Ix : Code → List α → List Nat → World → Prop) (hIP : ∀ pre S W, I pre S W → Pat W) (hAb : Bears I) (hAbx : ∀ c, Bears (Ix c)) (hOwn : Abide w.heap.size I) (hOwnx : ∀ c, Abide w.heap.size (Ix c)) (h0 : ∀ o o' : Obj, o.isCells = false → o'.isCells = false → I [] [] ((w.alloc o).alloc o'))
   (Ax : α → Act → World → Prop) (hAx : ∀ x a' W (o o' : Obj), Ax x a' W → W.heap[w.heap.size + 1]? = some o → o.isCells = false → Ax x a' (W.putObj (w.heap.size + 1) o'))
   (hassign : ∀ (l : Nat) (pre : List α) (x : α) (S : List Nat) (W : World) (K : Act → World → Prop), I pre S W → (∀ a' W', KpS [w.heap.size, w.heap.size + 1] W W' → KpS S W W' → I pre S W' → Ax x a' W' → K a' W') →
     assign.wpIn (F.inRound l) (n - 1 - 1) P (Exit.then K (fun _ _ _ => False)) { tmps := (ps.zip (encs x)).foldl (fun t (p, v) => t.setIfInBounds p v) a.tmps, defers := [] } W)
   (hbody : ∀ (l : Nat) (pre : List α) (x : α) (S : List Nat) (a' : Act) (W : World), I pre S W → Ax x a' W → pre ++ [x] <+: xs →
     body.wpIn (F.inRound l) (n - 1 - 1) P (leftP w.heap.size S I Ix (pre ++ [x]) W) a' W)
   (hdone : ∀ (D : Nat) (S : List Nat) (W : World), D = w.heap.size → I xs S W → W.heap[D]? = some (.deferred (some [])) → Q .normal { a with defers := { target := .collected D, args := #[] } :: a.defers } W)
   (hstop : ∀ (D : Nat) (c : Code) (pre : List α) (S : List Nat) (W : World), D = w.heap.size → pre <+: xs → Ix c pre S W → W.heap[D]? = some (.deferred (some [])) → c.wpIn F n P Q { a with defers := { target := .collected D, args := #[] } :: a.defers } W) :
   (Code.rangeFunc g ps assign body).wpIn F n P Q a w := by
 refine wpIn_rangeFunc ?_
 intro fn hfn
 rw [hro]
 obtain ⟨rec, hrec⟩ : ∃ rec : LoopState → Option Code → Loop, rec = fun st pe => { state := st, pending := pe, fn, tmps := a.tmps, params := ps, assign, body, defers := w.heap.size } := ⟨_, rfl⟩
 obtain ⟨W1, hW1⟩ : ∃ W1, (w.alloc (.deferred (some []))).alloc (.loop (rec .ready none)) = W1 := ⟨_, rfl⟩
 have hL1 : W1.heap[w.heap.size + 1]? = some (.loop (rec .ready none)) := by
   rw [← hW1]; have := World.alloc_heap_new (w.alloc (.deferred (some []))) (.loop (rec .ready none)); rwa [World.size_alloc] at this
 have hK1 : W1.heap[w.heap.size]? = some (.deferred (some [])) := by
   rw [← hW1]; exact (Below.heap_alloc _ _ _ (by simp)).trans (World.alloc_heap_new w _)
 have hI1 : I [] [] W1 := by rw [← hW1]; exact h0 _ _ rfl rfl
 refine ⟨w.heap.size + 1, [{ target := .collected w.heap.size, args := #[] }], W1, { target := .fn (.func gf) lb, args := cv ++ #[.func (.yield (w.heap.size + 1)) #[] #[]] }, W1, gf,
   cv ++ #[.func (.yield (w.heap.size + 1)) #[] #[]] ++ lb, W1, ?_, ?_, ?_, ?_, fun _ => h1, ?_⟩
 · rw [← hW1, hrec]; exact run_enterLoop_outer _ _ _ _ _
 · simp only [resolve, hg]
   simp [go_sem]
 · intro f' hf'; simp [Target.leads] at hf'; subst hf'; exact hFg
 · simp [invoke, go_sem, eg]
 ·
   obtain ⟨Bk, hBk⟩ : ∃ Bk : List Nat → World → Loop → Prop, Bk = fun S W r => (w.heap.size ∉ S ∧ w.heap.size + 1 ∉ S) ∧ W.heap[w.heap.size + 1]? = some (.loop r) ∧ W.heap[w.heap.size]? = some (.deferred (some [])) := ⟨_, rfl⟩
   have hBkp : ∀ {S W W' r}, Bk S W r → Kp S W W' → Bk (nwBl W W' ++ S) W' r := by
     intro S W W' r h K
     rw [hBk] at h ⊢
     obtain ⟨⟨hn1, hn2⟩, hl, hk⟩ := h
     have hlt : w.heap.size + 1 < W.heap.size := (Array.getElem?_eq_some_iff.1 hl).1
     refine ⟨⟨?_, ?_⟩, (K.block _ hlt hn2).trans hl, (K.block _ (by omega) hn1).trans hk⟩
     · rw [List.mem_append, mem_nwBl]; rintro (h | h)
       · omega
       · exact hn1 h
     · rw [List.mem_append, mem_nwBl]; rintro (h | h)
       · omega
       · exact hn2 h
   refine (hseq (w.heap.size + 1)
     (fun pre S W => I pre S W ∧ Bk S W (rec .ready none))
     (fun pre S W => ∃ c, Ix c pre S W ∧ Bk S W (rec .done (some c)))
     W1 ?_ ?_ (fun pre S W h => hIP pre S W h.1) ?_ ⟨hI1, by rw [hBk]; exact ⟨⟨by simp, by simp⟩, hL1, hK1⟩⟩).mono ?_
   · rintro s S W W' ⟨hi, hb⟩ K
     exact ⟨hAb s S W W' hi K, hBkp hb K⟩
   · rintro s S W W' ⟨c, hi, hb⟩ K
     exact ⟨c, hAbx c s S W W' hi K, hBkp hb K⟩
   · rintro pre x S W ⟨hi, hb⟩ hpx
     rw [hBk] at hb
     obtain ⟨⟨hn1, hn2⟩, hl, hk⟩ := hb
     have hy := run_yield (P := P) (args := encs x) hl (by rw [hrec]; exact hps x)
     rw [hrec] at hy
     refine ⟨fn, _, assign, body, hy, roundIn_of_wpIn hfn (hassign _ pre x S W _ hi ?_)⟩
     clear hy
     intro a' Wa hkfa hksa hia hax
     have hlt1 : w.heap.size + 1 < W.heap.size := (Array.getElem?_eq_some_iff.1 hl).1
     replace hl := (hkfa.2 _ (by simp) hlt1).trans hl
     replace hk := (hkfa.2 w.heap.size (by simp) (by omega)).trans hk
     have hlt2 : w.heap.size + 1 < Wa.heap.size := (Array.getElem?_eq_some_iff.1 hl).1
     refine ⟨_, run_beginRound hl (by rw [hrec]), ?_⟩
     have hl2 : (Wa.putObj (w.heap.size + 1) (.loop { rec .ready none with state := .busy })).heap[w.heap.size + 1]? = some (.loop { rec .ready none with state := .busy }) := World.putObj_heap_same hlt2
     have hk2 : (Wa.putObj (w.heap.size + 1) (.loop { rec .ready none with state := .busy })).heap[w.heap.size]? = some (.deferred (some [])) := (World.putObj_heap_other (by omega)).trans hk
     refine wpIn_mono (hbody _ pre x S a' _ (hOwn _ _ _ _ _ hia hl rfl) (hAx _ _ _ _ _ hax hl rfl) hpx) ?_
     have fin : ∀ (jump : Option Code) (W3 : World), KpS [w.heap.size, w.heap.size + 1] (Wa.putObj (w.heap.size + 1) (.loop { rec .ready none with state := .busy })) W3 → KpS S (Wa.putObj (w.heap.size + 1) (.loop { rec .ready none with state := .busy })) W3 →
         (Instr.endRound (w.heap.size + 1) jump).run P W3 = .ok (.bool jump.isNone) (W3.putObj (w.heap.size + 1) (.loop (rec (if jump.isNone then .ready else .done) jump))) ∧
         (∃ o, W3.heap[w.heap.size + 1]? = some o ∧ o.isCells = false) ∧
         Bk S (W3.putObj (w.heap.size + 1) (.loop (rec (if jump.isNone then .ready else .done) jump))) (rec (if jump.isNone then .ready else .done) jump) ∧
         KpS S W (W3.putObj (w.heap.size + 1) (.loop (rec (if jump.isNone then .ready else .done) jump))) := fun jump W3 hk3 hs3 => by
       have hlt3 : w.heap.size + 1 < (Wa.putObj (w.heap.size + 1) (.loop { rec .ready none with state := .busy })).heap.size := (Array.getElem?_eq_some_iff.1 hl2).1
       have hl3 := (hk3.2 _ (by simp) hlt3).trans hl2
       have hr := run_endRound (P := P) jump hl3
       rw [hrec] at hr ⊢
       refine ⟨hr, ⟨_, hl3, rfl⟩, ?_, ?_⟩
       · rw [hBk]
         exact ⟨⟨hn1, hn2⟩, World.putObj_heap_same (Array.getElem?_eq_some_iff.1 hl3).1, (World.putObj_heap_other (by omega)).trans ((hk3.2 w.heap.size (by simp) (by omega)).trans hk2)⟩
       · exact hksa.trans ((KpS.putObj Wa _ hn2).trans (hs3.trans (KpS.putObj W3 _ hn2)))
     rintro e a3 W3 hp
     cases e with
     | normal =>
       obtain ⟨hk3, hs3, hi3⟩ := hp
       obtain ⟨hr, ⟨o, ho, hoc⟩, hb4, hs4⟩ := fin none W3 hk3 hs3
       exact ⟨_, _, hr, hs4, .inl ⟨rfl, hOwn _ _ _ _ _ hi3 ho hoc, hb4⟩⟩
     | ret =>
       obtain ⟨hk3, hs3, hi3⟩ := hp
       obtain ⟨hr, ⟨o, ho, hoc⟩, hb4, hs4⟩ := fin (some .ret) W3 hk3 hs3
       exact ⟨_, _, hr, hs4, .inr ⟨rfl, .ret, hOwnx .ret _ _ _ _ _ hi3 ho hoc, hb4⟩⟩
     | exit id =>
       obtain ⟨hk3, hs3, hi3⟩ := hp
       obtain ⟨hr, ⟨o, ho, hoc⟩, hb4, hs4⟩ := fin (some (.exit id)) W3 hk3 hs3
       exact ⟨_, _, hr, hs4, .inr ⟨rfl, .exit id, hOwnx (.exit id) _ _ _ _ _ hi3 ho hoc, hb4⟩⟩
     | goto t => exact hp.elim
     | panic ch => exact hp.elim
     | outgrown => exact hp.elim
   · rintro e W2 ⟨⟨v, rfl⟩, S, (⟨hi, hb⟩ | ⟨pre, hpre, c, hi, hb⟩)⟩
     · rw [hBk] at hb
       obtain ⟨_, hl, hk⟩ := hb
       exact ⟨none, _, by have := run_endLoop (P := P) hl (by rw [hrec]; simp); rw [hrec] at this; exact this, hdone _ S _ rfl (hOwn _ _ _ _ _ hi hl rfl) ((World.putObj_heap_other (by omega)).trans hk)⟩
     · rw [hBk] at hb
       obtain ⟨_, hl, hk⟩ := hb
       exact ⟨some c, _, by have := run_endLoop (P := P) hl (by rw [hrec]; simp); rw [hrec] at this; exact this, hstop _ c pre S _ rfl hpre (hOwnx c _ _ _ _ _ hi hl rfl) ((World.putObj_heap_other (by omega)).trans hk)⟩
open Go.Deep Go.Maps
structure RD (w W : World) (b : HB) (q : Nat) (m : HM) (g : Nat) (t : TypeId) (cs : Array Value) : Prop where
 sh : SH W b q m
 bx : Blk W g t cs
 kp : Kp [] w W
section
variable {w W V : World} {b : HB} {m : HM} {q g : Nat} {t : TypeId} {cs : Array Value}
theorem SH.k0 (h : SH w b q m) (K : Kp [] w W) : SH W b q m := h.kp K (by simp)
theorem RD.step (u : RD w W b q m g t cs) (K : Kp [] W V) : RD w V b q m g t cs := ⟨u.sh.k0 K, u.bx.kp K (by simp), u.kp.chain K⟩
theorem RD.start (h : SH w b q m) (t : TypeId) (cs : Array Value) : RD w (w.alloc (.cells cs t)) b q m w.heap.size t cs := ⟨h.k0 (Kp.new _ _), Blk.new _ _ _, Kp.new _ _⟩
theorem a_fits (x y n : Nat) (w : World) (hx : x ≤ 100000) (hn : n ≤ 100000) :
   Calls Tryz.prog 204 #[.agg #[.int .i64 (x : Int), .int .i64 (y : Int)], .int .i64 (n : Int)] w fun e w' => e = .returned (.bool (fitA (x, y) n)) ∧ Kp [] w w' := by
 have e : fitA (x, y) n = decide ((x : Int) + (n : Int) ≤ (y : Int)) := by unfold fitA; simp only [decide_eq_decide]; omega
 rw [e]
 have B := Blk.new w 120 #[.int .i64 (x : Int), .int .i64 (y : Int)]
 clear e
 go_enter Tryz.func204, Tryz.ntmps204
 go_wp2
 go_ret
 exact ⟨rfl, Kp.new _ _⟩
theorem a_blocksFor (n : Nat) (w : World) (hn : n ≤ 100000) :
   Calls Tryz.prog 173 #[.int .i64 (n : Int)] w fun e w' => e = .returned (.int .i64 (((n + 63) / 64 : Nat) : Int)) ∧ ∃ k, w' = w.drewN k := by
 have e : (((n + 63) / 64 : Nat) : Int) = ((n : Int) + 64 - 1) / 64 := by omega
 rw [e]; clear e
 go_enter Tryz.func173, Tryz.ntmps173
 go_wp2
 go_ret
 exact ⟨rfl, 0, rfl⟩
theorem h_nblocks (h : SH w b q m) :
   Calls Tryz.prog 40 #[.pointer (some ⟨b.g, 0, none⟩)] w fun e w' => e = .returned (.int .i64 (m.bl.length : Int)) ∧ ∃ n, w' = w.drewN n := by
 have h0 := h
 obtain ⟨r, R, A, _⟩ := h
 have hc := R.c0
 rw [A.bl] at hc
 go_enter Tryz.func40, Tryz.ntmps40
 go_wp2_with (first | (go_at_call 55; refine h0.made.mono ?_; rintro e w' ⟨rfl, n1, rfl⟩))
 go_ret
 exact ⟨rfl, _, rfl⟩
theorem h_spc (h : SH w b q m) (i : Int) :
   Calls Tryz.prog 36 #[.pointer (some ⟨b.g, 0, none⟩), .int .i64 i] w fun e w' => e = .returned (.int .i64 (if inB m.bl.length i then (m.sp i.toNat : Int) else -1)) ∧ ∃ n, w' = w.drewN n := by
 obtain ⟨r, R, A, _⟩ := h
 have hbl := A.bl
 rcases hb : inB m.bl.length i
 · rw [if_neg (by decide)]
   have HB : Hid (inB r.bl.length i = false) := by rw [hbl]; exact hb
   clear hb
   go_enter Tryz.func36, Tryz.ntmps36
   go_wp2_with (first | (go_at_call 55; refine (h_made R).mono ?_; rintro e w' ⟨rfl, n1, rfl⟩) | (go_at_call 114; refine (h_hasBlock (R.drewN _) _).mono ?_; rintro e w' ⟨rfl, n2, rfl⟩; rw [HB.out]))
   go_ret
   exact ⟨rfl, _, rfl⟩
 · rw [if_pos rfl]
   have h0 := of_decide_eq_true hb
   obtain ⟨k, rfl⟩ : ∃ k : Nat, i = (k : Int) := ⟨i.toNat, by omega⟩
   have HB : Hid (inB r.bl.length (k : Int) = true) := by rw [hbl]; exact hb
   have hk : k < r.bl.length := by rw [hbl]; omega
   have hc := R.c0
   have hs := R.spc hk
   have hl := R.bl64
   rw [hbl] at hs
   have e : ((m.sp ((k : Int).toNat) : Nat) : Int) = (((m.bl.getD k (0, 0)).2 : Nat) : Int) := rfl
   rw [e]
   generalize (m.bl.getD k (0, 0)).2 = x at hs ⊢
   clear hb h0 e hbl
   go_enter Tryz.func36, Tryz.ntmps36
   go_wp2_with (first | (go_at_call 55; refine (h_made R).mono ?_; rintro e w' ⟨rfl, n1, rfl⟩) | (go_at_call 114; refine (h_hasBlock (R.drewN _) _).mono ?_; rintro e w' ⟨rfl, n2, rfl⟩; rw [HB.out]))
   go_ret
   exact ⟨rfl, _, rfl⟩
theorem st_k (h : SH w b q m) (i : Int) {x : Int} (hx : Hid ((if inB m.bl.length i then (m.st i.toNat : Int) else -1) = x)) :
   Calls Tryz.prog 41 #[.pointer (some ⟨b.g, 0, none⟩), .int .i64 i] w fun e w' => e = .returned (.int .i64 x) ∧ Kp [] w w' := by
 refine (h_state h i).mono ?_
 rintro e w' ⟨rfl, n, rfl⟩
 exact ⟨by rw [hx.out], Kp.draw _ _⟩
theorem sp_k (h : SH w b q m) (i : Int) {x : Int} (hx : Hid ((if inB m.bl.length i then (m.sp i.toNat : Int) else -1) = x)) :
   Calls Tryz.prog 36 #[.pointer (some ⟨b.g, 0, none⟩), .int .i64 i] w fun e w' => e = .returned (.int .i64 x) ∧ Kp [] w w' := by
 refine (h_spc h i).mono ?_
 rintro e w' ⟨rfl, n, rfl⟩
 exact ⟨by rw [hx.out], Kp.draw _ _⟩
theorem stV_eq (m : HM) (k : Nat) : (if inB m.bl.length (k : Int) then (m.st (k : Int).toNat : Int) else -1) = (if k < m.bl.length then (m.st k : Int) else -1) := by
 have : inB m.bl.length (k : Int) = decide (k < m.bl.length) := by unfold inB; simp
 rw [this]; simp
theorem spV_eq (m : HM) (k : Nat) : (if inB m.bl.length (k : Int) then (m.sp (k : Int).toNat : Int) else -1) = (if k < m.bl.length then (m.sp k : Int) else -1) := by
 have : inB m.bl.length (k : Int) = decide (k < m.bl.length) := by unfold inB; simp
 rw [this]; simp
theorem a_owns (h : SH w b q m) (s k : Nat) :
   Calls Tryz.prog 211 #[.agg #[.pointer (some ⟨b.g, 0, none⟩), .int .i64 (s : Int)], .int .i64 (k : Int)] w fun e w' => e = .returned (.bool (ownS m s k)) ∧ Kp [] w w' := by
 have U0 := RD.start h 118 #[.pointer (some ⟨b.g, 0, none⟩), .int .i64 (s : Int)]
 have b0 := U0.bx.cell 0
 have b1 := U0.bx.cell 1
 have HS := hid U0
 clear h U0
 by_cases hst : k < m.bl.length ∧ m.st k = 1
 · have HX : Hid ((if inB m.bl.length (k : Int) then (m.st (k : Int).toNat : Int) else -1) = 1) := by show _ = _; rw [stV_eq, if_pos hst.1, hst.2]; rfl
   have HY : Hid ((if inB m.bl.length (k : Int) then (m.sp (k : Int).toNat : Int) else -1) = (m.sp k : Int)) := by show _ = _; rw [spV_eq, if_pos hst.1]
   have e : ownS m s k = ((m.sp k : Int) == (s : Int)) := by
     unfold ownS
     rw [Bool.eq_iff_iff]
     simp only [decide_eq_true_eq, beq_iff_eq]
     omega
   rw [e]
   clear hst e
   go_enter Tryz.func211, Tryz.ntmps211
   go_wp2
   go_region_held3 (fun W => W.cell? ⟨w.heap.size, 0, none⟩ = some (.pointer (some ⟨b.g, 0, none⟩)) ∧ W.cell? ⟨w.heap.size, 1, none⟩ = some (.int .i64 (s : Int))) (go_keep)
     (first
       | (go_at_call 36; refine (sp_k U1.sh _ HY).mono ?_; rintro e w6 ⟨rfl, K6⟩; have U2 := U1.step K6; have t6 := U2.bx.cell 0; have t7 := U2.bx.cell 1; clear K6)
       | (go_at_call 41; refine (st_k (HS.out.step (Kp.draw _ 1)).sh _ HX).mono ?_; rintro e w5 ⟨rfl, K5⟩; have U1 := (HS.out.step (Kp.draw _ 1)).step K5; have t4 := U1.bx.cell 0; have t5 := U1.bx.cell 1; clear K5))
   go_wp2
   go_ret
   exact ⟨rfl, U2.kp⟩
 · have e : ownS m s k = false := by
     unfold ownS
     refine decide_eq_false (fun h1 => hst ⟨st_lt (bl := m.bl) (b := k) (by have h2 : m.st k = 1 := h1.1; unfold HM.st at h2; omega), h1.1⟩)
   rw [e]
   obtain ⟨x, hx⟩ : ∃ x : Int, (if inB m.bl.length (k : Int) then (m.st (k : Int).toNat : Int) else -1) = x := ⟨_, rfl⟩
   have hx1 : (x == 1) = false := by
     rw [beq_eq_false_iff_ne, ← hx, stV_eq]
     split
     · have : m.st k ≠ 1 := fun h2 => hst ⟨by assumption, h2⟩
       omega
     · omega
   have HX : Hid ((if inB m.bl.length (k : Int) then (m.st (k : Int).toNat : Int) else -1) = x) := hx
   have HQ : Hid (∀ n, Calls Tryz.prog 41 #[.pointer (some ⟨b.g, 0, none⟩), .int .i64 (k : Int)] ((w.alloc (.cells #[.pointer (some ⟨b.g, 0, none⟩), .int .i64 (s : Int)] 118)).drewN n) fun e w' => e = .returned (.int .i64 x) ∧ ∃ j, w' = ((w.alloc (.cells #[.pointer (some ⟨b.g, 0, none⟩), .int .i64 (s : Int)] 118)).drewN n).drewN j) := fun n => by
     refine (h_state (HS.out.sh.drewN n) _).mono ?_
     rintro e w' ⟨rfl, j, rfl⟩
     exact ⟨by rw [HX.out], _, rfl⟩
   clear hst e hx
   go_enter Tryz.func211, Tryz.ntmps211
   go_wp2
   go_quiet ((go_at_call 41; exact Calls.quiet_of (HQ.out _)))
   go_wp2
   go_ret
   exact ⟨rfl, (Kp.new _ _).drewN _⟩
end
theorem useIn {m : HM} (I : m.Inv) {a x : Nat} {o : Ob} (ho : m.ob a = some o) (h1 : a ≤ x) (h2 : x < a + o.wd) (hst : m.st (x / 64) = 1) : a / 64 = x / 64 ∧ o.wd ≤ 32 ∧ a % 64 + o.wd ≤ 64 := by
 have hs := I.lie _ _ ho
 have hw := (I.ok _ _ ho).wd_bd
 unfold suitB at hs
 split at hs
 · rename_i h32
   have := of_decide_eq_true hs
   exact ⟨by omega, h32, this.2⟩
 · rename_i h32
   obtain ⟨g1, g2, g3⟩ := of_decide_eq_true hs
   have hb : a / 64 < m.bl.length := st_lt (by omega)
   obtain ⟨e1, e2, e3, e4⟩ := (grpEnd_iff m.bl (a / 64) _ hb).1 rfl
   unfold HM.st at hst
   by_cases he : x / 64 = a / 64
   · rw [he] at hst; omega
   · have := e3 (x / 64) (by omega) (by omega)
     omega
structure GapsAt (m : HM) (s e : Nat) (rs : List (Nat × Nat)) : Prop where
 pos : ∀ i, i < rs.length → 1 ≤ (rs.getD i (0, 0)).2
 lo : ∀ i, i < rs.length → s ≤ (rs.getD i (0, 0)).1
 hi : ∀ i, i < rs.length → (rs.getD i (0, 0)).1 + (rs.getD i (0, 0)).2 ≤ e
 ev : ∀ i, i < rs.length → (rs.getD i (0, 0)).1 % 2 = 0 ∧ (rs.getD i (0, 0)).2 % 2 = 0
 sep : ∀ i, i + 1 < rs.length → (rs.getD i (0, 0)).1 + (rs.getD i (0, 0)).2 < (rs.getD (i + 1) (0, 0)).1
 free : ∀ i, i < rs.length → ∀ x, (rs.getD i (0, 0)).1 ≤ x → x < (rs.getD i (0, 0)).1 + (rs.getD i (0, 0)).2 → m.own x = 0
 all : ∀ x, s ≤ x → x < e → m.own x = 0 → ∃ i, i < rs.length ∧ (rs.getD i (0, 0)).1 ≤ x ∧ x < (rs.getD i (0, 0)).1 + (rs.getD i (0, 0)).2
theorem getD_snc (rs : List (Nat × Nat)) (x : Nat × Nat) (i : Nat) : (rs ++ [x]).getD i (0, 0) = if i < rs.length then rs.getD i (0, 0) else if i = rs.length then x else (0, 0) := by
 simp only [List.getD_eq_getElem?_getD]
 by_cases h : i < rs.length
 · rw [if_pos h, List.getElem?_append_left h]
 · rw [if_neg h]
   by_cases h2 : i = rs.length
   · subst h2; rw [if_pos rfl, List.getElem?_append_right (Nat.le_refl _)]; simp
   · rw [if_neg h2, List.getElem?_eq_none (by simp; omega)]; rfl
theorem GapsAt.gap {m : HM} {s e a : Nat} {rs : List (Nat × Nat)} (G : GapsAt m s e rs) (hse : s ≤ e) (hea : e ≤ a) (he : e % 2 = 0) (ha : a % 2 = 0) (hb : ∀ i, i < rs.length → (rs.getD i (0, 0)).1 + (rs.getD i (0, 0)).2 < e) (hf : ∀ x, e ≤ x → x < a → m.own x = 0) : GapsAt m s a (gapAdd rs e a) := by
 unfold gapAdd
 by_cases h : e = a
 · subst h; rw [if_pos rfl]; exact G
 rw [if_neg h]
 have hl : (rs ++ [(e, a - e)]).length = rs.length + 1 := by simp
 refine ⟨?_, ?_, ?_, ?_, ?_, ?_, ?_⟩
 · intro i hi
   rw [getD_snc]
   split
   · exact G.pos i ‹_›
   · rw [if_pos (by omega)]; show 1 ≤ a - e; omega
 · intro i hi
   rw [getD_snc]
   split
   · exact G.lo i ‹_›
   · rw [if_pos (by omega)]; exact hse
 · intro i hi
   rw [getD_snc]
   split
   · have := G.hi i ‹_›; omega
   · rw [if_pos (by omega)]; show e + (a - e) ≤ a; omega
 · intro i hi
   rw [getD_snc]
   split
   · exact G.ev i ‹_›
   · rw [if_pos (by omega)]; show e % 2 = 0 ∧ (a - e) % 2 = 0; omega
 · intro i hi
   rw [getD_snc, getD_snc, if_pos (by omega)]
   split
   · exact G.sep i ‹_›
   · rw [if_pos (by omega)]; exact hb i (by omega)
 · intro i hi x
   rw [getD_snc]
   split
   · exact G.free i ‹_› x
   · rw [if_pos (by omega)]
     intro h1 h2
     exact hf x h1 (by simp only at h2; omega)
 · intro x h1 h2 h3
   by_cases hx : x < e
   · obtain ⟨i, g1, g2⟩ := G.all x h1 hx h3
     exact ⟨i, by omega, by rw [getD_snc, if_pos g1]; exact g2⟩
   · exact ⟨rs.length, by omega, by rw [getD_snc, if_neg (Nat.lt_irrefl _), if_pos rfl]; show e ≤ x ∧ x < e + (a - e); omega⟩
theorem GapsAt.obj {m : HM} {s e z : Nat} {rs : List (Nat × Nat)} (G : GapsAt m s e rs) (hf : ∀ x, e ≤ x → x < e + z → m.own x ≠ 0) : GapsAt m s (e + z) rs :=
 ⟨G.pos, G.lo, fun i hi => by have := G.hi i hi; omega, G.ev, G.sep, G.free, fun x h1 h2 h3 => by
   by_cases hx : x < e
   · exact G.all x h1 hx h3
   · exact absurd h3 (hf x (by omega) h2)⟩
section
variable {m : HM}
theorem betw (I : m.Inv) {k i : Nat} (hk : k < m.bl.length) (hst : m.st k = 1) (hi : i ≤ (m.objL (k : Int)).length) {x : Nat} (h1 : (gpN m (m.objL (k : Int)) (64 * k) i).2 ≤ x) (h2 : x < 64 * (k + 1)) (h3 : ∀ h : i < (m.objL (k : Int)).length, x < ((m.objL (k : Int)).getD i 0).toNat) (h0 : 64 * k ≤ x) : m.own x = 0 := by
 rcases own_cases I x with ⟨a, o, ho, g1, g2, g3⟩ | ⟨g1, g2⟩
 · exfalso
   have hx : x / 64 = k := by omega
   obtain ⟨u1, u2, u3⟩ := useIn I ho g1 g2 (by rw [hx]; exact hst)
   have hb : inB m.bl.length (k : Int) = true := decide_eq_true ⟨by omega, by omega⟩
   have he := I.even _ _ ho
   have hm : ((a : Nat) : Int) ∈ m.objL (k : Int) := by
     simp only [HM.objL, hb, if_true]
     exact (fpL_mem _ _ _ _).2 ⟨a / 2 - (k : Int).toNat * 32, by simp; omega, by simp; omega, by rw [show 2 * ((k : Int).toNat * 32 + (a / 2 - (k : Int).toNat * 32)) = a by simp; omega, ho]; rfl⟩
   obtain ⟨y, hy, hg⟩ := List.mem_iff_getElem.1 hm
   have hgd : (m.objL (k : Int)).getD y 0 = (a : Int) := by rw [List.getD_eq_getElem?_getD, List.getElem?_eq_getElem hy, hg]; rfl
   by_cases hyi : y < i
   · have key : ∀ i, y < i → i ≤ (m.objL (k : Int)).length → a + o.wd ≤ (gpN m (m.objL (k : Int)) (64 * k) i).2 := by
       intro i
       induction i with
       | zero => intro h; omega
       | succ i ih =>
         intro h1 h2
         show _ ≤ ((m.objL (k : Int)).getD i 0).toNat + m.wdAt ((m.objL (k : Int)).getD i 0).toNat
         by_cases hyi : y = i
         · subst hyi
           rw [hgd, Int.toNat_natCast]
           unfold HM.wdAt
           rw [ho]
           exact Nat.le_refl _
         · have := ih (by omega) (by omega)
           have := gpN_before I hk (i := i) (by omega)
           omega
     have := key i hyi hi
     omega
   · have h4 : i < (m.objL (k : Int)).length := by omega
     have h5 := h3 h4
     by_cases hyi2 : y = i
     · subst hyi2; rw [hgd] at h5; simp at h5; omega
     · have := objL_lt hk (show i < y by omega) hy
       rw [hgd] at this
       omega
 · exact g2
theorem gpN_from (I : m.Inv) {k : Nat} (hk : k < m.bl.length) : ∀ i, i ≤ (m.objL (k : Int)).length → 64 * k ≤ (gpN m (m.objL (k : Int)) (64 * k) i).2 := by
 intro i
 rcases i with _ | i
 · intro _; exact Nat.le_refl _
 · intro hi
   obtain ⟨a, o, e, ho, h1, h2⟩ := objL_at (i := i) hk (by omega)
   show _ ≤ ((m.objL (k : Int)).getD i 0).toNat + _
   rw [e]
   simp
   omega
theorem gpN_at (I : m.Inv) {k : Nat} (hk : k < m.bl.length) (hst : m.st k = 1) : ∀ i, i ≤ (m.objL (k : Int)).length →
   GapsAt m (64 * k) (gpN m (m.objL (k : Int)) (64 * k) i).2 (gpN m (m.objL (k : Int)) (64 * k) i).1 ∧ (gpN m (m.objL (k : Int)) (64 * k) i).2 % 2 = 0 ∧ ∀ j, j < (gpN m (m.objL (k : Int)) (64 * k) i).1.length → ((gpN m (m.objL (k : Int)) (64 * k) i).1.getD j (0, 0)).1 + ((gpN m (m.objL (k : Int)) (64 * k) i).1.getD j (0, 0)).2 < (gpN m (m.objL (k : Int)) (64 * k) i).2 := by
 intro i
 induction i with
 | zero =>
   intro _
   refine ⟨⟨fun i hi => absurd hi (by simp [gpN]), fun i hi => absurd hi (by simp [gpN]), fun i hi => absurd hi (by simp [gpN]), fun i hi => absurd hi (by simp [gpN]), fun i hi => absurd hi (by simp [gpN]), fun i hi => absurd hi (by simp [gpN]), fun x h1 h2 => ?_⟩, by show 64 * k % 2 = 0; omega, fun i hi => absurd hi (by simp [gpN])⟩
   simp only [gpN] at h2
   omega
 | succ i ih =>
   intro hi
   obtain ⟨G, hev, hb⟩ := ih (by omega)
   obtain ⟨a, o, e, ho, h1, h2⟩ := objL_at (i := i) hk (by omega)
   have hbf := gpN_before I hk (i := i) (by omega)
   have hlo := gpN_from I hk i (by omega)
   rw [e, Int.toNat_natCast] at hbf
   have hwd := (I.ok _ _ ho).wd_bd
   have hl := I.lo ho
   have hae := I.even _ _ ho
   have ev : (gpN m (m.objL (k : Int)) (64 * k) (i + 1)).2 = a + o.wd := by
     show ((m.objL (k : Int)).getD i 0).toNat + m.wdAt ((m.objL (k : Int)).getD i 0).toNat = _
     rw [e, Int.toNat_natCast]; unfold HM.wdAt; rw [ho]
   have el : (gpN m (m.objL (k : Int)) (64 * k) (i + 1)).1 = gapAdd (gpN m (m.objL (k : Int)) (64 * k) i).1 (gpN m (m.objL (k : Int)) (64 * k) i).2 a := by
     show gapAdd _ _ ((m.objL (k : Int)).getD i 0).toNat = _
     rw [e, Int.toNat_natCast]
   rw [ev, el]
   have G2 := G.gap hlo hbf hev hae hb (fun x g1 g2 => betw I hk hst (by omega) g1 (by omega) (fun _ => by rw [e]; simpa using g2) (by omega))
   have G3 := G2.obj (z := o.wd) (fun x g1 g2 => by rw [own_cov I ho g1 g2]; omega)
   refine ⟨G3, by omega, fun j hj => ?_⟩
   have := G2.hi j hj
   omega
theorem gapsAt (I : m.Inv) {k : Nat} (hk : k < m.bl.length) (hst : m.st k = 1) : GapsAt m (64 * k) (64 * (k + 1)) (m.gapL (k : Int)) := by
 have hb : inB m.bl.length (k : Int) = true := decide_eq_true ⟨by omega, by omega⟩
 have e : m.gapL (k : Int) = gapAdd (gpN m (m.objL (k : Int)) (64 * k) (m.objL (k : Int)).length).1 (gpN m (m.objL (k : Int)) (64 * k) (m.objL (k : Int)).length).2 (64 * (k + 1)) := by
   unfold HM.gapL
   rw [if_pos ⟨hb, by simpa using hst⟩, Int.toNat_natCast]
 obtain ⟨G, hev, hbd⟩ := gpN_at I hk hst (m.objL (k : Int)).length (Nat.le_refl _)
 rw [e]
 exact G.gap (gpN_from I hk _ (Nat.le_refl _)) (gpN_end I hk hst) hev (by omega) hbd (fun x g1 g2 => betw I hk hst (Nat.le_refl _) g1 g2 (fun h => absurd h (Nat.lt_irrefl _)) (Nat.le_trans (gpN_from I hk _ (Nat.le_refl _)) g1))
theorem gapsNot {k : Nat} (hst : m.st k ≠ 1) : m.gapL (k : Int) = [] := by
 unfold HM.gapL
 rw [if_neg]
 rintro ⟨_, h⟩
 rw [Int.toNat_natCast] at h
 exact hst h
theorem gaps_len (I : m.Inv) {k : Nat} : (m.gapL (k : Int)).length ≤ 33 := by
 unfold HM.gapL
 split
 · have h1 := gapAdd_le (gpN m (m.objL (k : Int)) (64 * (k : Int).toNat) (m.objL (k : Int)).length).1 (gpN m (m.objL (k : Int)) (64 * (k : Int).toNat) (m.objL (k : Int)).length).2 (64 * ((k : Int).toNat + 1))
   have h2 := gpN_le m (m.objL (k : Int)) (64 * (k : Int).toNat) (m.objL (k : Int)).length
   have h3 : (m.objL (k : Int)).length ≤ 32 := by
     unfold HM.objL
     split
     · exact fpL_le _ _ _
     · simp
   omega
 · simp
theorem gap_bd (I : m.Inv) {k i : Nat} (hi : i < (m.gapL (k : Int)).length) : 64 ≤ ((m.gapL (k : Int)).getD i (0, 0)).1 ∧ 64 * k ≤ ((m.gapL (k : Int)).getD i (0, 0)).1 ∧ ((m.gapL (k : Int)).getD i (0, 0)).1 + ((m.gapL (k : Int)).getD i (0, 0)).2 ≤ 64 * (k + 1) ∧ 1 ≤ ((m.gapL (k : Int)).getD i (0, 0)).2 ∧ k < m.bl.length ∧ m.st k = 1 := by
 by_cases hst : m.st k = 1
 · have hk : k < m.bl.length := st_lt (bl := m.bl) (b := k) (by unfold HM.st at hst; omega)
   have G := gapsAt I hk hst
   have h0 : 1 ≤ k := by
     rcases Nat.eq_zero_or_pos k with h | h
     · subst h; have := I.b0; omega
     · exact h
   have h1 := G.lo i hi
   have h2 := G.hi i hi
   have h3 := G.pos i hi
   exact ⟨by omega, h1, h2, h3, hk, hst⟩
 · rw [gapsNot hst] at hi; cases hi
end
theorem frun_le (m : HM) (k : Nat) : frun m (k + 1) ≤ k := by
 induction k with
 | zero => exact Nat.le_refl _
 | succ k ih =>
   show (if k + 1 = 0 then 0 else if m.st (k + 1) = 0 then frun m (k + 1) + 1 else 0) ≤ _
   split
   · omega
   · split
     · omega
     · omega
theorem frun_free {m : HM} {k : Nat} (hk : 1 ≤ k) (h : m.st k = 0) : frun m (k + 1) = frun m k + 1 := by
 show (if k = 0 then 0 else if m.st k = 0 then frun m k + 1 else 0) = _
 rw [if_neg (by omega), if_pos h]
theorem frun_used {m : HM} {k : Nat} (h : m.st k ≠ 0) : frun m (k + 1) = 0 := by
 show (if k = 0 then 0 else if m.st k = 0 then frun m k + 1 else 0) = _
 rw [if_neg h]
 split <;> rfl
def noRun (m : HM) (c k : Nat) : Prop := ∀ j, 1 ≤ j → j < k → m.st j = 0 → frun m (j + 1) ≠ c
theorem freeB_at {m : HM} {c k : Nat} (hk : 1 ≤ k) (hn : k < m.bl.length) (h0 : m.st k = 0) (hr : frun m (k + 1) = c) (hno : noRun m c k) : m.freeB c = (k + 1 - c) * 64 := by
 unfold HM.freeB
 rw [leastN_some hn (by simp [hk, h0, hr]) (fun j hj => by
   by_cases h1 : 1 ≤ j
   · by_cases h2 : m.st j = 0
     · have := hno j h1 hj h2
       simp [this]
     · simp [h2]
   · simp [h1])]
theorem freeB_no {m : HM} {c : Nat} (hno : noRun m c m.bl.length) : m.freeB c = 0 := by
 unfold HM.freeB
 rw [leastN_none (fun j hj => by
   by_cases h1 : 1 ≤ j
   · by_cases h2 : m.st j = 0
     · have := hno j h1 hj h2
       simp [this]
     · simp [h2]
   · simp [h1])]
theorem freeB_some {m : HM} {c : Nat} (hc : 1 ≤ c) (h : m.freeB c ≠ 0) : ∃ k, 1 ≤ k ∧ k < m.bl.length ∧ m.st k = 0 ∧ frun m (k + 1) = c ∧ c ≤ k ∧ m.freeB c = (k + 1 - c) * 64 := by
 unfold HM.freeB at h ⊢
 rcases hl : leastN (fun k => decide (1 ≤ k) && decide (m.st k = 0) && decide (frun m (k + 1) = c)) m.bl.length with _ | k
 · rw [hl] at h; exact absurd rfl h
 · obtain ⟨h1, h2, h3⟩ := leastN_iff.1 hl
   simp only [Bool.and_eq_true, decide_eq_true_eq] at h2
   have := frun_le m k
   exact ⟨k, h2.1.1, h1, h2.1.2, h2.2, by omega, rfl⟩
theorem freeB_le (m : HM) (c : Nat) (I : m.Inv) : m.freeB c ≤ 4096 := by
 unfold HM.freeB
 have := I.len64
 rcases hl : leastN (fun k => decide (1 ≤ k) && decide (m.st k = 0) && decide (frun m (k + 1) = c)) m.bl.length with _ | k
 · exact Nat.zero_le _
 · obtain ⟨h1, h2, h3⟩ := leastN_iff.1 hl
   show (k + 1 - c) * 64 ≤ _
   omega
section
variable {w W V : World} {b : HB} {m : HM} {q g : Nat} {t : TypeId} {cs : Array Value}
theorem nb_k (h : SH w b q m) :
   Calls Tryz.prog 40 #[.pointer (some ⟨b.g, 0, none⟩)] w fun e w' => e = .returned (.int .i64 (m.bl.length : Int)) ∧ Kp [] w w' := by
 refine (h_nblocks h).mono ?_
 rintro e w' ⟨rfl, n, rfl⟩
 exact ⟨rfl, Kp.draw _ _⟩
theorem a_free (h : SH w b q m) (s c : Nat) (hc : 1 ≤ c) (hc2 : c ≤ 1000) :
   Calls Tryz.prog 172 #[.agg #[.pointer (some ⟨b.g, 0, none⟩), .int .i64 (s : Int)], .int .i64 (c : Int)] w fun e w' => e = .returned (.int .i64 ((m.freeB c : Nat) : Int)) ∧ Kp [] w w' := by
 have U0 := RD.start h 118 #[.pointer (some ⟨b.g, 0, none⟩), .int .i64 (s : Int)]
 have hl := h.inv.len64
 have hl2 := h.inv.len2
 have HU := hid U0
 generalize hn : m.bl.length = n at hl hl2
 have HN := hid hn
 clear h U0 hn
 go_enter Tryz.func172, Tryz.ntmps172
 go_wp2
 go_loopw [5, 6] (fun r k wr => ∃ j : Nat, 1 ≤ j ∧ j ≤ n ∧ k = .int .i64 (j : Int) ∧ r = .int .i64 ((frun m j : Nat) : Int) ∧ noRun m c j ∧ RD w wr b q m w.heap.size 118 #[.pointer (some ⟨b.g, 0, none⟩), .int .i64 (s : Int)]) (fun _ k _ => n - (intOf k).toNat)
 case atStart => exact ⟨1, by omega, by omega, rfl, rfl, fun j h1 h2 => by omega, HU.out⟩
 case round =>
   obtain ⟨j, hj1, hj, rfl, rfl, hno, U⟩ := hrel
   have hfr : frun m j ≤ 64 := by
     obtain ⟨i, rfl⟩ : ∃ i, j = i + 1 := ⟨j - 1, by omega⟩
     have := frun_le m i
     omega
   generalize hf : frun m j = f at hfr
   have HF := hid hf
   have HNO := hid hno
   have b0 := U.bx.cell 0
   clear hf hno
   by_cases hlt : j < n
   · rcases Nat.eq_zero_or_pos (m.st j) with hst | hst
     · have HX : Hid ((if inB m.bl.length (j : Int) then (m.st (j : Int).toNat : Int) else -1) = 0) := by show _ = _; rw [stV_eq, if_pos (by rw [HN.out]; exact hlt), hst]; rfl
       by_cases hfc : f + 1 = c
       · have hb : (((f : Int) + 1) == (c : Int)) = true := beq_iff_eq.2 (by omega)
         have HR : Hid (m.freeB c = (j + 1 - c) * 64) := freeB_at hj1 (by rw [HN.out]; exact hlt) hst (by rw [frun_free hj1 hst, HF.out]; exact hfc) HNO.out
         have hcj : c ≤ j + 1 := by
           have := frun_le m j
           rw [frun_free hj1 hst, HF.out] at this
           omega
         clear hst hfc
         go_wp2_with (first
           | (go_at_call 41; refine (st_k U1.sh _ HX).mono ?_; rintro e w6 ⟨rfl, K6⟩; have U2 := U1.step K6; have t6 := U2.bx.cell 0; clear K6)
           | (go_at_call 40; refine (nb_k U.sh).mono ?_; rintro e w5 ⟨rfl, K5⟩; rw [HN.out]; have U1 := U.step K5; have t5 := U1.bx.cell 0; clear K5))
         go_ret
         rw [HR.out]
         exact ⟨by go_num, U2.kp⟩
       · have hb : (((f : Int) + 1) == (c : Int)) = false := beq_eq_false_iff_ne.2 (by omega)
         have HR : Hid (frun m (j + 1) = f + 1) := by show _ = _; rw [frun_free hj1 hst, HF.out]
         have HNF : Hid (noRun m c (j + 1)) := fun i h1 h2 h3 => by
           by_cases hi : i = j
           · subst hi; rw [HR.out]; exact hfc
           · exact HNO.out i h1 (by omega) h3
         clear hst hfc
         go_wp2_with (first
           | (go_at_call 41; refine (st_k U1.sh _ HX).mono ?_; rintro e w6 ⟨rfl, K6⟩; have U2 := U1.step K6; have t6 := U2.bx.cell 0; clear K6)
           | (go_at_call 40; refine (nb_k U.sh).mono ?_; rintro e w5 ⟨rfl, K5⟩; rw [HN.out]; have U1 := U.step K5; have t5 := U1.bx.cell 0; clear K5))
         go_roundw
         case rel => exact ⟨j + 1, by omega, by omega, by go_num, by rw [HR.out]; go_num, HNF.out, U2⟩
         case measure => simp [intOf]; omega
     · obtain ⟨x, hx⟩ : ∃ x : Nat, m.st j = x := ⟨_, rfl⟩
       have HX : Hid ((if inB m.bl.length (j : Int) then (m.st (j : Int).toNat : Int) else -1) = (x : Int)) := by show _ = _; rw [stV_eq, if_pos (by rw [HN.out]; exact hlt), hx]
       have hx0 : ((x : Int) != 0) = true := bne_iff_ne.2 (by omega)
       have HR : Hid (frun m (j + 1) = 0) := frun_used (by omega)
       have HNF : Hid (noRun m c (j + 1)) := fun i h1 h2 h3 => by
         by_cases hi : i = j
         · subst hi; omega
         · exact HNO.out i h1 (by omega) h3
       clear hst hx
       go_wp2_with (first
         | (go_at_call 41; refine (st_k U1.sh _ HX).mono ?_; rintro e w6 ⟨rfl, K6⟩; have U2 := U1.step K6; have t6 := U2.bx.cell 0; clear K6)
         | (go_at_call 40; refine (nb_k U.sh).mono ?_; rintro e w5 ⟨rfl, K5⟩; rw [HN.out]; have U1 := U.step K5; have t5 := U1.bx.cell 0; clear K5))
       go_roundw
       case rel => exact ⟨j + 1, by omega, by omega, by go_num, by rw [HR.out]; rfl, HNF.out, U2⟩
       case measure => simp [intOf]; omega
   · obtain rfl : j = n := by omega
     have HR : Hid (m.freeB c = 0) := freeB_no (by rw [HN.out]; exact HNO.out)
     go_wp2_with (first
         | (go_at_call 40; refine (nb_k U.sh).mono ?_; rintro e w5 ⟨rfl, K5⟩; rw [HN.out]; have U1 := U.step K5; have t5 := U1.bx.cell 0; clear K5))
     go_ret
     rw [HR.out]
     exact ⟨rfl, U1.kp⟩
end
end Go.Proofs.YthndilllnneijaaGreat
