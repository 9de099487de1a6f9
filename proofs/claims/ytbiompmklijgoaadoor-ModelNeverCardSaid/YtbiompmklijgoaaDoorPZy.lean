/-
  Lists of numbers that are gathered in a slice of one's own, beside a model. Conditions: those that stand in each theorem.
-/
import Derived.Test.YtbiompmklijgoaaDoorPZx
import Derived.Test.YtbiompmklijgoaaDoorPZl
import Derived.Test.YtbiompmklijgoaaDoorPZq
namespace Go.Proofs.YtbiompmklijgoaaDoor
set_option linter.unusedVariables false
set_option linter.unusedSimpArgs false
open Go.RowKit Go.Deep Go.Maps

section
variable {w w' W V : World} {b : MB} {t t' : MT} {B : Nat} {vs : List Value} {v : Value} {L : List Nat}
/-- What the objects hold, one list after the other. -/
structure GL (w W : World) (b : MB) (t : MT) (B : Nat) (vs : List Value) (v : Value) : Prop where
  r : MR W b t
  k : Kp [] w W
  o : W.ownsRow B 45 1 v vs.length vs
  e : ∀ j, j < vs.length → W.ownsRow B 3 1 (vs.getD j undef) (t.cont ((j : Int) + 1)).length (zcells (t.cont ((j : Int) + 1)))
  n : ∀ j x, j < vs.length → (vs.getD j undef).ownBlock = some x → v.ownBlock ≠ some x
  bs : ∀ x ∈ b.all, x < B
  wb : w.heap.size ≤ B
  sz : B ≤ W.heap.size
  c0 : 0 < B
  nb : ∀ x ∈ b.all, w.heap.size ≤ x
theorem GL.kp0 (h : GL w W b t B vs v) (k : Kp [] W V) : GL w V b t B vs v :=
  ⟨h.r.kp0 k, h.k.chain k, own_kp0 h.o k, fun j hj => own_kp0 (h.e j hj) k, h.n, h.bs, h.wb, Nat.le_trans h.sz k.size, h.c0, h.nb⟩
theorem GL.nil (R : MR W b t) (k : Kp [] w W) (nb : ∀ x ∈ b.all, w.heap.size ≤ x) : GL w W b t W.heap.size [] (.slice none 0 0) :=
  ⟨R, k, ⟨rfl, .inl ⟨rfl, rfl⟩⟩, fun j hj => (Nat.not_lt_zero _ hj).elim, fun j x hj => (Nat.not_lt_zero _ hj).elim, fun x hx => R.lt x hx, k.size, Nat.le_refl _, cell_lt R.lz.1, nb⟩
theorem slice_one {e : TypeId} {B z n : Nat} {v : Value} {xs : List Value} (h : w.ownsRow B e z v n xs) : v.oneCell' = true := by
  obtain ⟨A, c, rfl⟩ := own_slicez h
  rfl
theorem getD_last {l : List Value} {x : Value} : (l ++ [x]).getD l.length undef = x := by
  rw [List.getD_eq_getElem?_getD, List.getElem?_append_right (Nat.le_refl _)]
  simp
theorem getD_first {l : List Value} {x : Value} {j : Nat} (h : j < l.length) : (l ++ [x]).getD j undef = l.getD j undef := by
  rw [List.getD_eq_getElem?_getD, List.getElem?_append_left h, ← List.getD_eq_getElem?_getD]
/-- One more list. -/
theorem wpList_gl {ops : Array Oper} {rest : List Oper} {o : Oper} {a : Act} {Q : Exit → Act → World → Prop} (hgd : o.guard = none) (s x : Operand)
    (ho : o.op = .call { callee := .builtin .append, args := #[s, x], argTypes := #[57, 57] }) (h : GL w W b t B vs v) (hl : vs.length ≤ 1000000) {vc : Value} {W0 : World} (h0 : GL w W0 b t B vs v)
    (hc : W.ownsRow W0.heap.size 3 1 vc (t.cont ((vs.length : Int) + 1)).length (zcells (t.cont ((vs.length : Int) + 1))))
    (hs : a.eval s = v) (hx : a.eval x = .slice (some ⟨W.heap.size, 0, none⟩) 1 1)
    (hK : ∀ v' W', GL w W' b t B (vs ++ [vc]) v' → wpList Tryd.prog ops Q rest (a.put o.dst v') W') :
    wpList Tryd.prog ops Q (o :: rest) a (W.alloc (.cells #[vc] 45)) := by
  obtain ⟨i0, hi0, hz0, hz1, hz2⟩ := info_parts infoRow
  have hsz := h.sz
  refine wpList_append_own_at _ hgd s x 57 ho B 45 i0 (.slice none 0 0) 1 24 Tryd.underlying57 hi0 hz0 hz1 hz2 rfl (by decide) v vs.length vs hs (h.o.alloc _) ⟨W.heap.size, 0, none⟩ 1 1 [vc] hx rfl (fun j u hu => ?_) (fun u hu => by
    rw [List.mem_singleton] at hu
    subst hu
    exact slice_one hc) (by unfold maxLen; omega) (by omega) (by simp; omega) ?_
  · have hb := Blk.new W 45 #[vc]
    exact blk_readz (sp := []) (xs := [vc]) (by simpa using hb) j u hu
  · intro v' w9 hown' hgr _ hat
    have hk : Kp v.ownBlock.toList W w9 := (Kp.new W _).trans (Kp.of_grown hgr) (by simp) (fun x hx => .inl hx)
    have hvB : ∀ x ∈ v.ownBlock.toList, B ≤ x := fun x hx => own_new h.o (by simpa using hx)
    have hvl : ∀ x, v.ownBlock = some x → x < W0.heap.size := fun x hx => own_lt h0.o x hx
    refine hK v' w9 ⟨h.r.kp hk (fun x hx hm => by have := h.bs x hx; have := hvB x hm; omega) (fun hm => by have := hvB 0 hm; have := h.c0; omega), h.k.trans hk (by simp) (fun x hx => .inr (by have := hvB x hx; have := h.wb; omega)), ?_, fun j hj => ?_, fun j x hj hx => ?_, h.bs, h.wb, Nat.le_trans h.sz hk.size, h.c0, h.nb⟩
    · rw [List.length_append]
      exact hown'
    · rcases Nat.lt_or_ge j vs.length with h1 | h1
      · rw [getD_first h1]
        exact own_kpx (h.e j h1) hk (fun g hg hm => h.n j g h1 hg (by simpa using hm))
      · have h2 : j = vs.length := by simp at hj; omega
        subst h2
        rw [getD_last]
        exact own_base (own_kpx hc hk (fun g hg hm => by have := own_new hc hg; have := hvl g (by simpa using hm); omega)) h0.sz
    · intro hv
      rcases Nat.lt_or_ge j vs.length with h1 | h1
      · rw [getD_first h1] at hx
        rcases hat with h2 | h2
        · rw [h2] at hv; exact h.n j x h1 hx hv
        · rw [h2] at hv
          have := own_lt (h.e j h1) x hx
          simp at hv
          omega
      · have h2 : j = vs.length := by simp at hj; omega
        subst h2
        rw [getD_last] at hx
        rcases hat with h2 | h2
        · rw [h2] at hv
          have := own_new hc hx
          have := hvl x hv
          omega
        · rw [h2] at hv
          have := own_lt hc x hx
          simp at hv
          omega
theorem own_stay {e : TypeId} {z n : Nat} {xs : List Value} (h : W.ownsRow B e z v n xs) (s : Stay L W V) (hm : ∀ x, v.ownBlock = some x → x ∈ L) : V.ownsRow B e z v n xs := by
  obtain ⟨hl, h2 | ⟨g, cap, cur, hv, hg, hb, r⟩⟩ := h
  · exact ⟨hl, .inl h2⟩
  · subst hv
    exact ⟨hl, .inr ⟨g, cap, cur, rfl, hg, (s.block g (hm g rfl)).trans hb, r⟩⟩
/-- All blocks that are not a model's. -/
def offB (b : MB) (W : World) : List Nat := (List.range W.heap.size).filter (fun x => decide (x ∉ b.all))
theorem mem_offB {x : Nat} (h : x < W.heap.size) (hn : x ∉ b.all) : x ∈ offB b W := List.mem_filter.2 ⟨List.mem_range.2 h, decide_eq_true hn⟩
theorem offB_live (R : MR W b t) : Live W b.g t (offB b W) :=
  ⟨⟨b, rfl, R, fun x hx => of_decide_eq_true (List.mem_filter.1 hx).2⟩, fun x hx => List.mem_range.1 (List.mem_filter.1 hx).1⟩
/-- The lists, once they are made. -/
structure GD (w W : World) (t : MT) (vs : List Value) (v : Value) : Prop where
  k : Kp [] w W
  o : W.ownsRow 0 45 1 v vs.length vs
  e : ∀ j, j < vs.length → W.ownsRow 0 3 1 (vs.getD j undef) (t.cont ((j : Int) + 1)).length (zcells (t.cont ((j : Int) + 1)))
theorem GD.kp0 (h : GD w W t vs v) (k : Kp [] W V) : GD w V t vs v := ⟨h.k.chain k, own_kp0 h.o k, fun j hj => own_kp0 (h.e j hj) k⟩
theorem GL.stay (h : GL w W b t B vs v) (s : Stay (offB b W) W V) : GD w V t vs v := by
  have hw : ∀ x, B ≤ x → x < W.heap.size → x ∈ offB b W := fun x h1 h2 => mem_offB h2 (fun hm => by have := h.bs x hm; omega)
  refine ⟨s.kp0 h.k (fun x hx => mem_offB (Nat.lt_of_lt_of_le hx h.k.size) (fun hm => by have := h.nb x hm; omega)), own_base (own_stay h.o s (fun x hx => hw x (own_new h.o hx) (own_lt h.o x hx))) (Nat.zero_le _), fun j hj => own_base (own_stay (h.e j hj) s (fun x hx => hw x (own_new (h.e j hj) hx) (own_lt (h.e j hj) x hx))) (Nat.zero_le _)⟩
end
end Go.Proofs.YtbiompmklijgoaaDoor
