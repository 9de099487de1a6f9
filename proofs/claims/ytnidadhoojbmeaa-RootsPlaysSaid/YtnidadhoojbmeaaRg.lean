/-
  A range over an iterator that keeps cells of its own between two rounds, and whose loop never leaves early: what the iterator owes, and the law for its caller. Conditions: those that stand in each theorem.
-/
import Derived.Test.YtnidadhoojbmeaaU
import Derived.RangeFuncNested
import Derived.RangeFuncBound
import Derived.RangeFuncCalls
import Derived.RangeFuncLeaves
import Derived.Shelf.Abstract
import Derived.Shelf.RegionOpen
import Derived.OwnWalkIn
import Derived.TacticsInMore
import Derived.LoopNIn
import Derived.LoopIn
namespace Go.Proofs.Ytnidadhoojbmeaa
set_option linter.unusedVariables false
set_option linter.unusedSimpArgs false
open Go.RowKit Go.Shelf

/-- The blocks that have been laid between two worlds. -/
def newBl (W W' : World) : List Nat := List.range' W.heap.size (W'.heap.size - W.heap.size)
theorem mem_newBl {W W' : World} {x : Nat} : x ∈ newBl W W' ↔ W.heap.size ≤ x ∧ x < W'.heap.size := by
  unfold newBl
  rw [List.mem_range'_1]
  omega
/-- J bears what the iterator does to its own blocks S, and new ones, which are its own then. -/
def AbOwn {α : Type} (J : List α → List Nat → World → Prop) : Prop :=
  ∀ s S W W', J s S W → Kp S W W' → J s (newBl W W' ++ S) W'
/-- The iterator's blocks lie as they lay. -/
def KeepS (S : List Nat) (W W' : World) : Prop := W.heap.size ≤ W'.heap.size ∧ ∀ k ∈ S, k < W.heap.size → W'.heap[k]? = W.heap[k]?
theorem KeepS.refl (S : List Nat) (W : World) : KeepS S W W := ⟨Nat.le_refl _, fun _ _ _ => rfl⟩
theorem KeepS.trans {S : List Nat} {A B C : World} (h : KeepS S A B) (k : KeepS S B C) : KeepS S A C := ⟨Nat.le_trans h.1 k.1, fun i hi hl => (k.2 i hi (Nat.lt_of_lt_of_le hl h.1)).trans (h.2 i hi hl)⟩
theorem KeepS.putObj {S : List Nat} (W : World) {l : Nat} (o : Obj) (h : l ∉ S) : KeepS S W (W.putObj l o) := ⟨by simp, fun k hk _ => World.putObj_heap_other (fun e => h (e ▸ hk))⟩
/-- What an iterator over xs owes. -/
def Iter {α : Type} (F : Fence) (n : Nat) (P : Program) (g : Nat) (lb : Array Value) (encs : α → Array Value) (Pat : World → Prop) (xs : List α) : Prop :=
  ∀ (l : Nat) (J : List α → List Nat → World → Prop) (W : World), AbOwn J → (∀ pre S W, J pre S W → Pat W) →
    (∀ pre x S W1, J pre S W1 → pre ++ [x] <+: xs → YieldAt F (n - 1) P l (encs x) W1 fun e W' => e = .returned (.bool true) ∧ J (pre ++ [x]) S W' ∧ KeepS S W1 W') →
    J [] [] W → CallsIn F n P g (#[.func (.yield l) #[] #[]] ++ lb) W fun e W' => (∃ v, e = .returned v) ∧ ∃ S, J xs S W'
variable {F : Fence} {n : Nat} {P : Program}
set_option maxHeartbeats 1000000 in
theorem range_iter {α : Type} {g : Operand} {ps : Array Tmp} {assign body : Code} {Q : Exit → Act → World → Prop} {a : Act} {w : World}
    (hro : F.round = none) (h1 : 1 ≤ n) {gf : Nat} {lb : Array Value} (hg : a.eval g = .func (.func gf) #[] lb) (hFg : F.fn gf) (eg : ∀ args w, (callFunc gf args).run P w = .ok (.enter gf args) w)
    {encs : α → Array Value} {Pat : World → Prop} {xs : List α} (hseq : Iter F (n - 1) P gf lb encs Pat xs) (hps : ∀ x, (encs x).size = ps.size)
    (I : List α → List Nat → World → Prop) (hIP : ∀ pre S W, I pre S W → Pat W) (hAb : AbOwn I) (hOwn : ∀ S, OwnFrom w.heap.size (fun pre W => I pre S W)) (h0 : I [] [] w)
    (Ax : α → Act → World → Prop) (hAx : ∀ x a', OwnFrom w.heap.size (fun (_ : Unit) W => Ax x a' W))
    (hassign : ∀ (l : Nat) (pre : List α) (x : α) (S : List Nat) (W : World) (K : Act → World → Prop), I pre S W → (∀ a' W', KeepsFrom w.heap.size W W' → KeepS S W W' → I pre S W' → Ax x a' W' → K a' W') →
      assign.wpIn (F.inRound l) (n - 1 - 1) P (Exit.then K (fun _ _ _ => False)) { tmps := (ps.zip (encs x)).foldl (fun t (p, v) => t.setIfInBounds p v) a.tmps, defers := [] } W)
    (hbody : ∀ (l : Nat) (pre : List α) (x : α) (S : List Nat) (a' : Act) (W : World), I pre S W → Ax x a' W → pre ++ [x] <+: xs →
      body.wpIn (F.inRound l) (n - 1 - 1) P (fun e _ W' => e = .normal ∧ KeepsFrom w.heap.size W W' ∧ KeepS S W W' ∧ I (pre ++ [x]) S W') a' W)
    (hdone : ∀ (D : Nat) (S : List Nat) (W : World), w.heap.size ≤ D → I xs S W → W.heap[D]? = some (.deferred (some [])) → Q .normal { a with defers := { target := .collected D, args := #[] } :: a.defers } W) :
    (Code.rangeFunc g ps assign body).wpIn F n P Q a w := by
  refine wpIn_rangeFunc ?_
  intro fn hfn
  rw [hro]
  obtain ⟨rec, hrec⟩ : ∃ rec : LoopState → Option Code → Loop, rec = fun st pe => { state := st, pending := pe, fn, tmps := a.tmps, params := ps, assign, body, defers := w.heap.size } := ⟨_, rfl⟩
  obtain ⟨W1, hW1⟩ : ∃ W1, (w.alloc (.deferred (some []))).alloc (.loop (rec .ready none)) = W1 := ⟨_, rfl⟩
  have hL1 : W1.heap[w.heap.size + 1]? = some (.loop (rec .ready none)) := by
    rw [← hW1]; have := World.alloc_heap_new (w.alloc (.deferred (some []))) (.loop (rec .ready none)); rwa [World.size_alloc] at this
  have hK1 : W1.heap[w.heap.size]? = some (.deferred (some [])) := by
    rw [← hW1]; exact (Below.heap_alloc _ _ _ (by simp)).trans (World.alloc_heap_new w _)
  have hI1 : I [] [] W1 := by rw [← hW1]; exact (hOwn []).alloc (s := []) _ ((hOwn []).alloc (s := []) _ h0)
  refine ⟨w.heap.size + 1, [{ target := .collected w.heap.size, args := #[] }], W1, { target := .fn (.func gf) lb, args := #[.func (.yield (w.heap.size + 1)) #[] #[]] }, W1, gf,
    #[.func (.yield (w.heap.size + 1)) #[] #[]] ++ lb, W1, ?_, ?_, ?_, ?_, fun _ => h1, ?_⟩
  · rw [← hW1, hrec]; exact run_enterLoop_outer _ _ _ _ _
  · simp only [resolve, hg]
    simp [go_sem]
  · intro f' hf'; simp [Target.leads] at hf'; subst hf'; exact hFg
  · simp [invoke, go_sem, eg]
  · refine (hseq (w.heap.size + 1)
      (fun pre S W => I pre S W ∧ (w.heap.size ∉ S ∧ w.heap.size + 1 ∉ S) ∧ W.heap[w.heap.size + 1]? = some (.loop (rec .ready none)) ∧ W.heap[w.heap.size]? = some (.deferred (some [])))
      W1 ?_ (fun pre S W h => hIP pre S W h.1) ?_ ⟨hI1, ⟨by simp, by simp⟩, hL1, hK1⟩).mono ?_
    · rintro s S W W' ⟨hi, ⟨hn1, hn2⟩, hl, hk⟩ K
      have hlt : w.heap.size + 1 < W.heap.size := (Array.getElem?_eq_some_iff.1 hl).1
      refine ⟨hAb s S W W' hi K, ⟨?_, ?_⟩, (K.block _ hlt hn2).trans hl, (K.block _ (by omega) hn1).trans hk⟩
      · rw [List.mem_append, mem_newBl]; rintro (h | h)
        · omega
        · exact hn1 h
      · rw [List.mem_append, mem_newBl]; rintro (h | h)
        · omega
        · exact hn2 h
    · rintro pre x S W ⟨hi, ⟨hn1, hn2⟩, hl, hk⟩ hpx
      have hlt : w.heap.size + 1 < W.heap.size := (Array.getElem?_eq_some_iff.1 hl).1
      have hy := run_yield (P := P) (args := encs x) hl (by rw [hrec]; exact hps x)
      rw [hrec] at hy
      refine ⟨fn, _, assign, body, hy, roundIn_of_wpIn hfn (hassign _ pre x S W _ hi ?_)⟩
      clear hy
      intro a' Wa hkfa hksa hia hax
      replace hl := hkfa.same _ _ (by omega) hl rfl
      replace hk := hkfa.same _ _ (Nat.le_refl _) hk rfl
      have hlt2 : w.heap.size + 1 < Wa.heap.size := (Array.getElem?_eq_some_iff.1 hl).1
      refine ⟨_, run_beginRound hl (by rw [hrec]), ?_⟩
      have hl2 : (Wa.putObj (w.heap.size + 1) (.loop { rec .ready none with state := .busy })).heap[w.heap.size + 1]? = some (.loop { rec .ready none with state := .busy }) := World.putObj_heap_same hlt2
      have hk2 : (Wa.putObj (w.heap.size + 1) (.loop { rec .ready none with state := .busy })).heap[w.heap.size]? = some (.deferred (some [])) := (World.putObj_heap_other (by omega)).trans hk
      refine wpIn_mono (hbody _ pre x S a' _ ((hOwn S).putObj (s := pre) _ hia (by omega) hl rfl) ((hAx x a').putObj (s := ()) _ hax (by omega) hl rfl) hpx) ?_
      rintro e a3 W3 ⟨rfl, hk3, hs3, hi3⟩
      have hl3 := hk3.same _ _ (by omega) hl2 rfl
      have hk3' := hk3.same _ _ (Nat.le_refl _) hk2 rfl
      have hr := run_endRound (P := P) none hl3
      have hlt3 := (Array.getElem?_eq_some_iff.1 hl3).1
      refine ⟨_, _, hr, rfl, ⟨(hOwn S).putObj (s := pre ++ [x]) _ hi3 (by omega) hl3 rfl, ⟨hn1, hn2⟩, ?_, (World.putObj_heap_other (by omega)).trans hk3'⟩, ?_⟩
      · rw [World.putObj_heap_same hlt3]
        rw [hrec]; rfl
      · exact hksa.trans ((KeepS.putObj Wa _ hn2).trans (hs3.trans (KeepS.putObj W3 _ hn2)))
    · rintro e W2 ⟨⟨v, rfl⟩, S, hi, _, hl, hk⟩
      exact ⟨none, _, by have := run_endLoop (P := P) hl (by rw [hrec]; simp); rw [hrec] at this; exact this, hdone _ S _ (Nat.le_refl _) ((hOwn S).putObj (s := xs) _ hi (by omega) hl rfl) ((World.putObj_heap_other (by omega)).trans hk)⟩
end Go.Proofs.Ytnidadhoojbmeaa
