/-
  The contract of the document's roots' Clone: what it makes before its loop. Conditions: those that stand in each theorem.
-/
import Derived.Test.YtnidadhoojbmeaaSn
import Derived.Test.YtnidadhoojbmeaaSf
import Derived.Laws.AppendOwnNone
namespace Go.Proofs.Ytnidadhoojbmeaa
set_option linter.unusedVariables false
set_option linter.unusedSimpArgs false
open Go.RowKit Go.Deep Go.Maps

section
variable {w w' W V : World}
/-- Numbers appended to an empty literal. -/
theorem run_app_lit {g B : Nat} {v : Value} {zs : List Int} (hb : Blk W g 3 #[]) (hB : B ≤ g) (hv : IsI W v zs) (hnil : ∀ n c, v = .slice none n c → n = 0 ∧ c = 0) (hl : zs.length ≤ 64) (ty : TypeId) :
    ∃ g' c' W', (Builtin.append_ #[34, 34] ty #[.slice (some ⟨g, 0, none⟩) 0 0, v]).run Try.prog W = .ok (.slice (some ⟨g', 0, none⟩) zs.length c') W' ∧
      W'.ownsRow B 3 1 (.slice (some ⟨g', 0, none⟩) zs.length c') zs.length (zcells zs) ∧ Kp [g] W W' ∧ (g' = g ∨ g' = W.heap.size) := by
  obtain ⟨i0, hi0, hz0, hz1, hz2⟩ := info_parts infoInt
  obtain ⟨A, cap, rfl, h1, hA⟩ := hv
  have hlt := hb.lt
  have own0 : W.ownsRow B 3 1 (.slice (some ⟨g, 0, none⟩) 0 0) 0 [] := ⟨rfl, .inr ⟨g, 0, #[], rfl, hB, hb, Nat.le_refl _, Nat.zero_le _, rfl, rfl⟩⟩
  rcases Nat.eq_zero_or_pos zs.length with h0 | h0
  · have hz : zs = [] := List.length_eq_zero_iff.1 h0
    subst hz
    cases A with
    | none =>
      obtain ⟨_, hc⟩ := hnil _ _ rfl
      rw [hc]
      exact ⟨g, 0, W, run_append_owned_none (P := Try.prog) (w := W) B 34 ty 3 i0 1 Try.underlying34 hi0 (.slice (some ⟨g, 0, none⟩) 0 0) 0 [] own0, own0, Kp.refl _ _, .inl rfl⟩
    | some a =>
      obtain ⟨v', W', hr, o, gr, hn, hat⟩ := run_append_own_at (P := Try.prog) W B 34 ty 3 i0 (.int .i64 0) 1 8 Try.underlying34 hi0 hz0 hz1 hz2 rfl (by decide) (.slice (some ⟨g, 0, none⟩) 0 0) 0 [] own0 a 0 cap [] rfl (by simp) (by simp) (by unfold maxLen; omega) (by omega) (by omega)
      have hv : ∃ g' c', v' = .slice (some ⟨g', 0, none⟩) 0 c' := by
        rcases o.2 with ⟨h2, _⟩ | ⟨g2, c2, cur, h2, _⟩
        · have := (hn.1 h2).1; cases this
        · exact ⟨_, _, h2⟩
      obtain ⟨g', c', rfl⟩ := hv
      refine ⟨g', c', W', hr, o, (Kp.of_grown gr).mono (fun x hx => .inl (by simpa [Value.ownBlock, eq_comm] using hx)), ?_⟩
      simp [Value.ownBlock] at hat
      omega
  · obtain ⟨g0, o0, rfl, _⟩ := hA 0 h0
    obtain ⟨v', W', hr, o, gr, hn, hat⟩ := run_append_own_at (P := Try.prog) W B 34 ty 3 i0 (.int .i64 0) 1 8 Try.underlying34 hi0 hz0 hz1 hz2 rfl (by decide) (.slice (some ⟨g, 0, none⟩) 0 0) 0 [] own0 ⟨g0, o0, none⟩ zs.length cap (zcells zs) (by rw [zcells_length, Nat.mul_one]) (fun j u hu => by
      have hj := (List.getElem?_eq_some_iff.1 hu).1
      rw [zcells_length] at hj
      obtain ⟨g1, o1, e1, c1⟩ := hA j hj
      injection e1 with e1
      injection e1 with e1 e2
      subst e1 e2
      rw [addr_off, c1, ← hu]
      simp [zcells, hj]) (zcells_one zs) (by unfold maxLen; omega) (by omega) (by omega)
    have hv : ∃ g' c', v' = .slice (some ⟨g', 0, none⟩) zs.length c' := by
      rcases o.2 with ⟨h2, _⟩ | ⟨g2, c2, cur, h2, _⟩
      · have := (hn.1 h2).2; omega
      · exact ⟨_, _, by rw [h2, Nat.zero_add]⟩
    obtain ⟨g', c', rfl⟩ := hv
    rw [Nat.zero_add, List.nil_append] at o
    refine ⟨g', c', W', hr, o, (Kp.of_grown gr).mono (fun x hx => .inl (by simpa [Value.ownBlock, eq_comm] using hx)), ?_⟩
    simp [Value.ownBlock] at hat
    omega
/-- The same, at a step of a region that draws its order. -/
theorem step_app_lit {ops : Array Oper} {o : Oper} {a : Act} {K : Act → World → Prop} {Q : Exit → Act → World → Prop} {E : Prop} (hgd : o.guard = none) (s x : Operand)
    (ho : o.op = .call { callee := .builtin .append, args := #[s, x], argTypes := #[34, 34] })
    {g B : Nat} {v : Value} {zs : List Int} (hs : a.eval s = .slice (some ⟨g, 0, none⟩) 0 0) (hx : a.eval x = v) (hb : Blk W g 3 #[]) (hB : B ≤ g) (hv : IsI W v zs) (hnil : ∀ n c, v = .slice none n c → n = 0 ∧ c = 0) (hl : zs.length ≤ 64)
    (h : ∀ g' c' W', W'.ownsRow B 3 1 (.slice (some ⟨g', 0, none⟩) zs.length c') zs.length (zcells zs) → Kp [g] W W' → (g' = g ∨ g' = W.heap.size) → K (a.put o.dst (.slice (some ⟨g', 0, none⟩) zs.length c')) W') :
    if Region.wanted o (yielded ops a.tmps) = true then Oper.wp Try.prog o a W K Q else E := by
  have hw : Region.wanted o (yielded ops a.tmps) = true := by simp [Region.wanted, hgd]
  rw [if_pos hw]
  obtain ⟨g', c', W', hr, o2, k2, hat⟩ := run_app_lit hb hB hv hnil hl o.type
  unfold Oper.wp execOp
  simp only [ho, resolve, invoke, builtin, Sem.run_bind, Sem.run_pure, Result.andThen_ok, List.map_toArray, List.map_cons, List.map_nil, hs, hx, hr]
  exact h g' c' W' o2 k2 hat
end
def chV : Nat ⊕ (Value × List Int) → Value
  | .inl g => .slice (some ⟨g, 0, none⟩) 0 0
  | .inr p => p.1
def chZ : Nat ⊕ (Value × List Int) → List Int
  | .inl _ => []
  | .inr p => p.2
/-- What Clone makes before its loop: two copies, each not begun, an empty literal, or done. -/
structure FC (w : World) (b : TB) (t : RT) (o1 o2 : Option (Nat ⊕ (Value × List Int))) (W : World) : Prop where
  tr : TR W b t
  kp : Kp [] w W
  lo : ∀ x ∈ b.all, x < w.heap.size
  q1 : ∀ p, o1 = some p → W.ownsRow w.heap.size 3 1 (chV p) (chZ p).length (zcells (chZ p))
  q2 : ∀ p, o2 = some p → W.ownsRow w.heap.size 3 1 (chV p) (chZ p).length (zcells (chZ p))
  l1 : ∀ g, o1 = some (.inl g) → Blk W g 3 #[]
  l2 : ∀ g, o2 = some (.inl g) → Blk W g 3 #[]
  ne : ∀ p q x, o1 = some p → o2 = some q → (chV p).ownBlock = some x → (chV q).ownBlock ≠ some x
section
variable {w w' W V : World} {b : TB} {t : RT} {o1 o2 : Option (Nat ⊕ (Value × List Int))}
theorem FC.sw (h : FC w b t o1 o2 W) : FC w b t o2 o1 W := ⟨h.tr, h.kp, h.lo, h.q2, h.q1, h.l2, h.l1, fun p q x h1 h2 h3 h4 => h.ne q p x h2 h1 h4 h3⟩
theorem FC.drewN (h : FC w b t o1 o2 W) (n : Nat) : FC w b t o1 o2 (W.drewN n) := ⟨h.tr.kp0 (Kp.draw _ _), h.kp.drewN n, h.lo, fun p hp => own_kp0 (h.q1 p hp) (Kp.draw _ _), fun p hp => own_kp0 (h.q2 p hp) (Kp.draw _ _), h.l1, h.l2, h.ne⟩
theorem FC.new (h : FC w b t none o2 W) {g : Nat} (hg : g = W.heap.size) : FC w b t (some (.inl g)) o2 (W.alloc (.cells #[] 3)) := by
  subst hg
  have hs := h.kp.size
  refine ⟨h.tr.kp0 (Kp.new _ _), h.kp.chain (Kp.new _ _), h.lo, fun p hp => ?_, fun p hp => own_kp0 (h.q2 p hp) (Kp.new _ _), fun g hg => ?_, fun g hg => (h.l2 g hg).kp (Kp.new _ _) (by simp), fun p q x hp hq hx hy => ?_⟩
  · injection hp with hp; subst hp
    exact own_base (own_empty W 3) hs
  · injection hg with hg; injection hg with hg; subst hg
    exact Blk.new W 3 #[]
  · injection hp with hp; subst hp
    simp [chV, Value.ownBlock] at hx
    have := own_lt (h.q2 q hq) x hy
    omega
theorem FC.app {g g' c' : Nat} {zs : List Int} (h : FC w b t (some (.inl g)) o2 W) (own : V.ownsRow w.heap.size 3 1 (.slice (some ⟨g', 0, none⟩) zs.length c') zs.length (zcells zs)) (k : Kp [g] W V) (hat : g' = g ∨ g' = W.heap.size) : FC w b t (some (.inr (.slice (some ⟨g', 0, none⟩) zs.length c', zs))) o2 V := by
  have hs := h.kp.size
  have h1 := h.q1 _ rfl
  have hg : w.heap.size ≤ g := by
    rcases h1.2 with ⟨hv, _⟩ | ⟨g2, c2, cur, hv, hle, _⟩
    · cases hv
    · injection hv with hv; injection hv with hv; injection hv with hv; omega
  have kk : Kp [] w V := h.kp.trans k (by simp) (fun x hx => .inr (by simp at hx; omega))
  have hlt : ∀ x ∈ b.all, x ∉ [g] := fun x hx hm => by
    simp at hm; subst hm
    have := h.lo x hx
    omega
  refine ⟨h.tr.kp k hlt, kk, h.lo, fun p hp => by injection hp with hp; subst hp; exact own, fun p hp => own_kps (h.q2 p hp) k (fun x hx hm => by simp at hm; subst hm; exact h.ne _ p x rfl hp rfl hx), (fun g hg => by injection hg with hg; cases hg), fun g2 hg2 => (h.l2 g2 hg2).kp k (fun hm => by simp at hm; subst hm; exact h.ne _ _ g2 rfl hg2 rfl rfl), fun p q x hp hq hx hy => ?_⟩
  injection hp with hp; subst hp
  simp [chV, Value.ownBlock] at hx
  subst hx
  rcases hat with rfl | rfl
  · exact h.ne _ q _ rfl hq rfl hy
  · have := own_lt (h.q2 q hq) _ hy
    omega
theorem FC.base {g : Nat} (h : FC w b t (some (.inl g)) o2 W) : w.heap.size ≤ g := by
  have h1 := h.q1 _ rfl
  rcases h1.2 with ⟨hv, _⟩ | ⟨g2, c2, cur, hv, hle, _⟩
  · cases hv
  · injection hv with hv; injection hv with hv; injection hv with hv; omega
/-- One of the two appends, at a step of a region that draws its order. -/
theorem FC.step {ops : Array Oper} {o : Oper} {a : Act} {K : Act → World → Prop} {Q : Exit → Act → World → Prop} {E : Prop} (hgd : o.guard = none) (s x : Operand)
    (ho : o.op = .call { callee := .builtin .append, args := #[s, x], argTypes := #[34, 34] })
    {g : Nat} {v : Value} {zs : List Int} (hf : FC w b t (some (.inl g)) o2 W) (hs : a.eval s = .slice (some ⟨g, 0, none⟩) 0 0) (hx : a.eval x = v) (hv : IsI W v zs) (hnil : ∀ n c, v = .slice none n c → n = 0 ∧ c = 0) (hl : zs.length ≤ 64)
    (h : ∀ g' c' V, FC w b t (some (.inr (.slice (some ⟨g', 0, none⟩) zs.length c', zs))) o2 V → K (a.put o.dst (.slice (some ⟨g', 0, none⟩) zs.length c')) V) :
    if Region.wanted o (yielded ops a.tmps) = true then Oper.wp Try.prog o a W K Q else E :=
  step_app_lit hgd s x ho (B := w.heap.size) hs hx (hf.l1 g rfl) hf.base hv hnil hl fun g' c' V own k hat => h g' c' V (hf.app own k hat)
end
end Go.Proofs.Ytnidadhoojbmeaa
