/-
  The contract of package roots' Leads. Conditions: those that stand in each theorem.
-/
import Derived.Test.YtnidadhoojbmeaaRk
import Derived.Test.YtnidadhoojbmeaaRp
namespace Go.Proofs.Ytnidadhoojbmeaa
set_option linter.unusedVariables false
set_option linter.unusedSimpArgs false
open Go.RowKit Go.Deep Go.Maps Go.Shelf
attribute [local go_sem] Oper.semAt_some

section
variable {w w' W : World} {b : RB} {t : RT}
/-- What holds between two rounds of Leads' loop. -/
structure ILd (w : World) (b : RB) (t : RT) (Bl bm Bm Br : Nat) (pre : List Pl) (S : List Nat) (W : World) : Prop where
  ex : ∃ v q, Blk W Bl 34 #[v] ∧ W.ownsRow w.heap.size 3 1 v (t.leads pre).length (zcells (t.leads pre)) ∧ BSet W bm q (t.leads pre) ∧ q ≤ pre.length ∧ Apart S w.heap.size W (Bl :: Bm :: Br :: bm :: (v.ownBlock.toList ++ b.all))
  bx : Blk W Bm 71 #[.map (some bm)]
  br : Blk W Br 25 #[.pointer (some ⟨b.g, 0, none⟩)]
  rr : RR W b t
  kp : Kp [] w W
theorem ILd.kps {Bl bm Bm Br : Nat} {pre : List Pl} {S T S' : List Nat} (h : ILd w b t Bl bm Bm Br pre S W) (k : Kp T W w') (hT2 : ∀ x ∈ T, w.heap.size ≤ x) (hT : ∀ v, (∃ q, Blk W Bl 34 #[v] ∧ W.ownsRow w.heap.size 3 1 v (t.leads pre).length (zcells (t.leads pre)) ∧ BSet W bm q (t.leads pre) ∧ q ≤ pre.length ∧ Apart S w.heap.size W (Bl :: Bm :: Br :: bm :: (v.ownBlock.toList ++ b.all))) → (∀ x ∈ Bl :: Bm :: Br :: bm :: (v.ownBlock.toList ++ b.all), x ∉ T) ∧ Apart S' w.heap.size w' (Bl :: Bm :: Br :: bm :: (v.ownBlock.toList ++ b.all))) : ILd w b t Bl bm Bm Br pre S' w' := by
  obtain ⟨v, q, h1, h2, h3, h4, h5⟩ := h.ex
  obtain ⟨n, ha⟩ := hT v ⟨q, h1, h2, h3, h4, h5⟩
  exact ⟨⟨v, q, h1.kp k (n _ (by simp)), own_kps h2 k (fun g hg => n g (by simp [hg])), h3.kp k (n _ (by simp)), h4, ha⟩, h.bx.kp k (n _ (by simp)), h.br.kp k (n _ (by simp)), h.rr.kp k (fun x hx => n x (by simp [hx])), h.kp.trans k (U := []) (by simp) (fun x hx => .inr (hT2 x hx))⟩
theorem ILd.ab (w : World) (b : RB) (t : RT) (Bl bm Bm Br : Nat) : AbOwn (ILd w b t Bl bm Bm Br) := by
  intro pre S W W' h k
  have hc := h
  refine h.kps k (by obtain ⟨v, q, _, _, _, _, h5⟩ := h.ex; exact h5.lo) (fun v ⟨q, h1, h2, h3, h4, h5⟩ => ⟨h5.ne_, h5.step hc.kp.size (fun x hx => ?_) k⟩)
  simp only [List.mem_cons, List.mem_append] at hx
  rcases hx with rfl | rfl | rfl | rfl | hx | hx
  · exact h1.lt
  · exact hc.bx.lt
  · exact hc.br.lt
  · exact h3.lt
  · exact blk_of_own h2 x hx
  · exact hc.rr.lt x hx
theorem ILd.own_ {w w0 : World} {b : RB} {t : RT} {Bl bm Bm Br : Nat} (hw : w.heap.size ≤ w0.heap.size) (hb : bm < w0.heap.size) (S : List Nat) : OwnFrom w0.heap.size (fun pre W => ILd w b t Bl bm Bm Br pre S W) := by
  intro pre X Y row h hg hr
  have hc := h
  have k : Kp row.toList X Y := Kp.of_grown hg
  have hne : ∀ g, (∀ o, X.heap[g]? = some o → o.isCells = true) → g ∉ row.toList := fun g hc hm => by
    obtain ⟨_, o, ho, hoc⟩ := hr g (by simpa using hm)
    rw [hc o ho] at hoc; cases hoc
  refine h.kps k (fun x hx => by have := (hr x (by simpa using hx)).1; omega) (fun v ⟨q, h1, h2, h3, h4, h5⟩ => ⟨fun x hx => ?_, h5.more k.size (fun x hx => .inl hx)⟩)
  simp only [List.mem_cons, List.mem_append] at hx
  rcases hx with rfl | rfl | rfl | rfl | hx | hx
  · exact hne _ h1.isC
  · exact hne _ hc.bx.isC
  · exact hne _ hc.br.isC
  · intro hm
    have := (hr _ (by simpa using hm)).1
    omega
  · exact hne _ (own_isC h2 x hx)
  · exact hne _ (hc.rr.isC x hx)
theorem keepsFrom_kp2 {T : List Nat} {B : Nat} {W W' : World} (k : Kp T W W') (hT : ∀ x ∈ T, x < B ∨ ∀ o, W.heap[x]? = some o → o.isCells = true) : KeepsFrom B W W' :=
  ⟨k.size, fun i o hB hi ho => (k.block i (Array.getElem?_eq_some_iff.1 hi).1 (fun hm => by
    rcases hT i hm with h | h
    · omega
    · have := h o hi; rw [this] at ho; cases ho)).trans hi⟩
end
end Go.Proofs.Ytnidadhoojbmeaa
