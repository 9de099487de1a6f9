/-
  A model with one object more: the mathematics, and the memory. Conditions: those that stand in each theorem.
-/
import Derived.Test.YtbiompmklijgoaaDoorPGA
import Derived.Deep.AppendLies
import Derived.Deep.DeepCutAuto
import Derived.Test.YtbiompmklijgoaaDoorPGB
import Derived.BigRegion
import Derived.BigQuiet
namespace Go.Proofs.YtbiompmklijgoaaDoor
set_option linter.unusedVariables false
set_option linter.unusedSimpArgs false
open Go.RowKit Go.Deep Go.Maps

def MT.addM (t : MT) (r d k : Nat) : MT := { t with ob := t.ob ++ [⟨r, d, k, t.ws.length⟩], ws := t.ws ++ zer (r + d) }
theorem getD_snoc {l : List OB} {o : OB} (i : Nat) : (l ++ [o]).getD i OB.zero = if i < l.length then l.getD i OB.zero else if i = l.length then o else OB.zero := by
  rw [List.getD_eq_getElem?_getD]
  by_cases h : i < l.length
  · rw [if_pos h, List.getElem?_append_left h, ← List.getD_eq_getElem?_getD]
  · rw [if_neg h, List.getElem?_append_right (by omega)]
    by_cases h2 : i = l.length
    · rw [if_pos h2, h2, Nat.sub_self]; rfl
    · rw [if_neg h2]
      rw [List.getElem?_eq_none (by simp; omega)]
      rfl
theorem getD_zer {l : List Int} {k p : Nat} : (l ++ zer k).getD p 0 = l.getD p 0 := by
  rw [List.getD_eq_getElem?_getD, List.getD_eq_getElem?_getD]
  by_cases h : p < l.length
  · rw [List.getElem?_append_left h]
  · rw [List.getElem?_append_right (by omega), List.getElem?_eq_none (by omega : l.length ≤ p)]
    unfold zer
    rw [List.getElem?_replicate]
    split <;> rfl
theorem MT.Ok.add {t : MT} (ok : t.Ok) {r d k : Nat} (hs : shB r d k = true) (hn : t.ob.length < 100000) : (t.addM r d k).Ok := by
  have hsb := of_decide_eq_true hs
  have hwl := ok.wl
  have hz : (t.ws ++ zer (r + d)).length = t.ws.length + (r + d) := by simp [zer]
  have hidn : ∀ x, t.idn x → (t.addM r d k).idn x := fun x h => ⟨h.1, by have := h.2; simp [MT.addM]; omega⟩
  refine ⟨ok.n1, ok.n4, ok.sl, ok.gl, ok.qu, fun i hi => ?_, fun i hi => ?_, fun i j hij hj => ?_, fun x hx => hidn x (ok.isl x hx), fun x hx => hidn x (ok.igl x hx), fun x hx => by have := ok.iqu x hx; simp [MT.addM]; omega, fun i j hi hj => ?_, fun x hx => ?_, ?_, ?_⟩
  · simp [MT.addM] at hi
    show shB ((t.ob ++ [_]).getD i OB.zero).r ((t.ob ++ [_]).getD i OB.zero).d ((t.ob ++ [_]).getD i OB.zero).k = true
    rw [getD_snoc]
    by_cases h : i < t.ob.length
    · rw [if_pos h]; exact ok.sh i h
    · rw [if_neg h, if_pos (by omega)]; exact hs
  · simp [MT.addM] at hi
    show ((t.ob ++ [_]).getD i OB.zero).f + ((t.ob ++ [_]).getD i OB.zero).r + ((t.ob ++ [_]).getD i OB.zero).d ≤ (t.ws ++ zer (r + d)).length
    rw [getD_snoc, hz]
    by_cases h : i < t.ob.length
    · rw [if_pos h]; have := ok.fit i h; omega
    · rw [if_neg h, if_pos (by omega)]; show t.ws.length + r + d ≤ _; omega
  · simp [MT.addM] at hj
    show ((t.ob ++ [_]).getD i OB.zero).f + ((t.ob ++ [_]).getD i OB.zero).r + ((t.ob ++ [_]).getD i OB.zero).d ≤ ((t.ob ++ [_]).getD j OB.zero).f
    rw [getD_snoc, getD_snoc, if_pos (by omega : i < t.ob.length)]
    by_cases h : j < t.ob.length
    · rw [if_pos h]; exact ok.apart i j hij h
    · rw [if_neg h, if_pos (by omega)]; exact ok.fit i (by omega)
  · simp [MT.addM] at hi
    refine hidn _ ?_
    have hj' : j < ((t.ob ++ [OB.mk r d k t.ws.length]).getD i OB.zero).r := hj
    show t.idn ((t.ws ++ zer (r + d)).getD (((t.ob ++ [OB.mk r d k t.ws.length]).getD i OB.zero).f + j) 0)
    rw [getD_zer]
    rw [getD_snoc] at hj' ⊢
    by_cases h : i < t.ob.length
    · rw [if_pos h] at hj' ⊢; exact ok.irf i j h hj'
    · rw [if_neg h, if_pos (by omega)] at hj' ⊢
      show t.idn (t.ws.getD (t.ws.length + j) 0)
      rw [List.getD_eq_getElem?_getD, List.getElem?_eq_none (by omega)]
      exact ⟨by simp, by simp⟩
  · have hx' : x ∈ t.ws ++ zer (r + d) := hx
    rcases List.mem_append.1 hx' with h | h
    · exact ok.w64 x h
    · have := (List.mem_replicate.1 h).2; subst this; exact ⟨by omega, by omega⟩
  · refine ⟨by simp [MT.addM]; omega, ?_⟩
    simp [MT.addM, zer]
    omega
  · simp [MT.addM, zer]
    omega
/-- A model in memory, whatever it holds. -/
structure MW (w : World) (b : MB) (t : MT) : Prop where
  gl : t.gl.length = 16
  lz : LZ w
  z0 : 0 ∉ b.all
  mem : ∃ (c : Nat) (sp : List Value), t.n ≤ c ∧ c ≤ maxLen ∧ (zcells t.sl ++ sp).length = 16 * c ∧ Blk w b.g 48 (mcell b t c) ∧ Blk w b.sb 80 (zcells t.sl ++ sp).toArray
  Q : w.ownsRow 0 3 1 b.qv t.qu.length (zcells t.qu)
  O : w.ownsRow 0 84 4 b.ov t.ob.length (obcells t.ob)
  D : w.ownsRow 0 3 1 b.wv t.ws.length (zcells t.ws)
  ne : ∀ x, b.qv.ownBlock = some x → b.wv.ownBlock ≠ some x
theorem MR.w {w : World} {b : MB} {t : MT} (R : MR w b t) : MW w b t := ⟨R.ok.gl, R.lz, R.z0, R.mem, R.Q, R.O, R.D, R.ne⟩
theorem MW.r {w : World} {b : MB} {t : MT} (R : MW w b t) (ok : t.Ok) : MR w b t := ⟨ok, R.lz, R.z0, R.mem, R.Q, R.O, R.D, R.ne⟩
def ChgW (w : World) (b : MB) (t' : MT) (w' : World) : Prop := ∃ b' : MB, b'.g = b.g ∧ b'.sb = b.sb ∧ MW w' b' t' ∧ Kp b.all w w' ∧ ∀ x ∈ b'.all, x ∈ b.all ∨ w.heap.size ≤ x
section
variable {w w' W V : World} {b : MB} {t : MT}
theorem MW.lt (R : MW w b t) : ∀ x ∈ b.all, x < w.heap.size := by
  obtain ⟨c, sp, h1, h2, h3, G, B⟩ := R.mem
  intro x hx
  simp only [MB.all, List.mem_cons, List.mem_append, Option.mem_toList] at hx
  rcases hx with rfl | rfl | (hx | hx) | hx
  · exact G.lt
  · exact B.lt
  · exact own_lt R.Q _ hx
  · exact own_lt R.O _ hx
  · exact own_lt R.D _ hx
theorem MW.blocks (R : MW w b t) : b.g ≠ b.sb ∧ (∀ x, b.qv.ownBlock = some x → x ≠ b.g ∧ x ≠ b.sb) ∧ (∀ x, b.wv.ownBlock = some x → x ≠ b.g ∧ x ≠ b.sb) ∧ (∀ x, b.ov.ownBlock = some x → x ≠ b.g ∧ x ≠ b.sb ∧ b.qv.ownBlock ≠ some x ∧ b.wv.ownBlock ≠ some x) := by
  obtain ⟨c, sp, h1, h2, h3, G, B⟩ := R.mem
  have blk : ∀ {B n z : Nat} {e : TypeId} {v : Value} {xs : List Value}, w.ownsRow B e z v n xs → ∀ x, v.ownBlock = some x → ∃ cs, Blk w x e cs := fun h x hx => by
    rcases h.2 with ⟨hv, _⟩ | ⟨g, cap, cur, hv, _, hb, _⟩
    · rw [hv] at hx; simp [Value.ownBlock] at hx
    · rw [hv] at hx; simp [Value.ownBlock] at hx; subst hx; exact ⟨cur, hb⟩
  refine ⟨G.ne_ B (by decide), fun x hx => ?_, fun x hx => ?_, fun x hx => ?_⟩
  · obtain ⟨cs, h⟩ := blk R.Q x hx
    exact ⟨h.ne_ G (by decide), h.ne_ B (by decide)⟩
  · obtain ⟨cs, h⟩ := blk R.D x hx
    exact ⟨h.ne_ G (by decide), h.ne_ B (by decide)⟩
  · obtain ⟨cs, h⟩ := blk R.O x hx
    refine ⟨h.ne_ G (by decide), h.ne_ B (by decide), fun e => ?_, fun e => ?_⟩
    · obtain ⟨cs2, h2⟩ := blk R.Q x e
      exact h.ne_ h2 (by decide) rfl
    · obtain ⟨cs2, h2⟩ := blk R.D x e
      exact h.ne_ h2 (by decide) rfl
/-- Other objects. -/
theorem MW.setO {v : Value} {q : List OB} (R : MW w b t) (k : Kp b.ov.ownBlock.toList w w') (own : w'.ownsRow 0 84 4 v q.length (obcells q)) (hn : ∀ x, v.ownBlock = some x → b.ov.ownBlock = some x ∨ w.heap.size ≤ x) :
    ChgW w b { t with ob := q } (w'.setCell ⟨b.g, 18, none⟩ v) := by
  obtain ⟨cc, sp, h1, h2, h3, G, B⟩ := R.mem
  obtain ⟨n1, n2, n3, n4⟩ := R.blocks
  have hlt := R.lt
  have hno : ∀ x, (∀ y, b.ov.ownBlock = some y → y ≠ x) → x ∉ b.ov.ownBlock.toList := fun x h hm => h x (by simpa using hm) rfl
  have G2 := G.kp k (hno _ fun y hy => (n4 y hy).1)
  have B2 := B.kp k (hno _ fun y hy => (n4 y hy).2.1)
  have Q2 := own_kpx R.Q k (fun x hx => hno _ fun y hy e => (n4 y hy).2.2.1 (e ▸ hx))
  have D2 := own_kpx R.D k (fun x hx => hno _ fun y hy e => (n4 y hy).2.2.2 (e ▸ hx))
  have hmem : b.g ∈ b.all := by simp [MB.all]
  have k2 : Kp [b.g] w' (w'.setCell ⟨b.g, 18, none⟩ v) := Kp.cell w' ⟨b.g, 18, none⟩ v
  have h0 : 0 ∉ [b.g] := fun h => by simp at h; exact R.z0 (h ▸ hmem)
  have h00 : 0 ∉ b.ov.ownBlock.toList := hno _ fun y hy e => R.z0 (by subst e; simp [MB.all, hy])
  have z0 : 0 < w.heap.size := by have := hlt b.g hmem; omega
  have vb : ∀ x, v.ownBlock = some x → x ≠ b.g ∧ x ≠ 0 := fun x hx => by
    rcases hn x hx with h | h
    · exact ⟨(n4 x h).1, fun e => R.z0 (by subst e; simp [MB.all, h])⟩
    · have a1 := hlt b.g hmem
      exact ⟨by omega, by omega⟩
  refine ⟨⟨b.g, b.sb, b.qv, v, b.wv⟩, rfl, rfl, ⟨R.gl, (R.lz.kp k h00).kp k2 h0, ?_, ⟨cc, sp, h1, h2, h3, ?_, B2.kp k2 (by simp; exact fun e => n1 e.symm)⟩, own_kpx Q2 k2 (fun x hx hm => by simp at hm; exact (n2 x hx).1 hm), own_kpx own k2 (fun x hx hm => by simp at hm; exact (vb x hx).1 hm), own_kpx D2 k2 (fun x hx hm => by simp at hm; exact (n3 x hx).1 hm), R.ne⟩, ?_, ?_⟩
  · intro hm
    simp only [MB.all, List.mem_cons, List.mem_append, Option.mem_toList] at hm
    rcases hm with hm | hm | (hm | hm) | hm
    · exact R.z0 (by rw [hm]; exact hmem)
    · exact R.z0 (by rw [hm]; simp [MB.all])
    · exact R.z0 (by simp [MB.all, hm])
    · exact (vb 0 hm).2 rfl
    · exact R.z0 (by simp [MB.all, hm])
  · have := G2.set_ 18 v
    have e : (mcell b t cc).setIfInBounds 18 v = mcell ⟨b.g, b.sb, b.qv, v, b.wv⟩ { t with ob := q } cc := by
      unfold mcell
      rw [List.setIfInBounds_toArray, show 18 = 17 + 1 from rfl, List.set_cons_succ, List.set_append_right _ _ (by rw [zcells_length, R.gl]; omega), zcells_length, R.gl]
      rfl
    rw [e] at this
    exact this
  · exact k.trans k2 (fun x hx => .inl (by simp at hx; simp [MB.all, hx])) (fun x hx => .inl (by simp at hx; subst hx; exact hmem))
  · intro x hx
    simp only [MB.all, List.mem_cons, List.mem_append, Option.mem_toList] at hx ⊢
    rcases hx with hx | hx | (hx | hx) | hx
    · exact .inl (.inl hx)
    · exact .inl (.inr (.inl hx))
    · exact .inl (.inr (.inr (.inl (.inl hx))))
    · rcases hn x hx with h | h
      · exact .inl (.inr (.inr (.inl (.inr h))))
      · exact .inr h
    · exact .inl (.inr (.inr (.inr hx)))
/-- Other words. -/
theorem MW.setD {v : Value} {q : List Int} (R : MW w b t) (k : Kp b.wv.ownBlock.toList w w') (own : w'.ownsRow 0 3 1 v q.length (zcells q)) (hn : ∀ x, v.ownBlock = some x → b.wv.ownBlock = some x ∨ w.heap.size ≤ x) :
    ChgW w b { t with ws := q } (w'.setCell ⟨b.g, 19, none⟩ v) := by
  obtain ⟨cc, sp, h1, h2, h3, G, B⟩ := R.mem
  obtain ⟨n1, n2, n3, n4⟩ := R.blocks
  have hlt := R.lt
  have hno : ∀ x, (∀ y, b.wv.ownBlock = some y → y ≠ x) → x ∉ b.wv.ownBlock.toList := fun x h hm => h x (by simpa using hm) rfl
  have G2 := G.kp k (hno _ fun y hy => (n3 y hy).1)
  have B2 := B.kp k (hno _ fun y hy => (n3 y hy).2)
  have O2 := own_kpx R.O k (fun x hx => hno _ fun y hy e => (n4 x hx).2.2.2 (e ▸ hy))
  have Q2 := own_kpx R.Q k (fun x hx => hno _ fun y hy e => R.ne x hx (e ▸ hy))
  have hmem : b.g ∈ b.all := by simp [MB.all]
  have k2 : Kp [b.g] w' (w'.setCell ⟨b.g, 19, none⟩ v) := Kp.cell w' ⟨b.g, 19, none⟩ v
  have h0 : 0 ∉ [b.g] := fun h => by simp at h; exact R.z0 (h ▸ hmem)
  have h00 : 0 ∉ b.wv.ownBlock.toList := hno _ fun y hy e => R.z0 (by subst e; simp [MB.all, hy])
  have z0 : 0 < w.heap.size := by have := hlt b.g hmem; omega
  have vb : ∀ x, v.ownBlock = some x → x ≠ b.g ∧ b.qv.ownBlock ≠ some x ∧ x ≠ 0 := fun x hx => by
    rcases hn x hx with h | h
    · exact ⟨(n3 x h).1, fun e => R.ne x e h, fun e => R.z0 (by subst e; simp [MB.all, h])⟩
    · have a1 := hlt b.g hmem
      exact ⟨by omega, fun e => by have := own_lt R.Q _ e; omega, by omega⟩
  refine ⟨⟨b.g, b.sb, b.qv, b.ov, v⟩, rfl, rfl, ⟨R.gl, (R.lz.kp k h00).kp k2 h0, ?_, ⟨cc, sp, h1, h2, h3, ?_, B2.kp k2 (by simp; exact fun e => n1 e.symm)⟩, own_kpx Q2 k2 (fun x hx hm => by simp at hm; exact (n2 x hx).1 hm), own_kpx O2 k2 (fun x hx hm => by simp at hm; exact (n4 x hx).1 hm), own_kpx own k2 (fun x hx hm => by simp at hm; exact (vb x hx).1 hm), fun x hx e => (vb x e).2.1 hx⟩, ?_, ?_⟩
  · intro hm
    simp only [MB.all, List.mem_cons, List.mem_append, Option.mem_toList] at hm
    rcases hm with hm | hm | (hm | hm) | hm
    · exact R.z0 (by rw [hm]; exact hmem)
    · exact R.z0 (by rw [hm]; simp [MB.all])
    · exact R.z0 (by simp [MB.all, hm])
    · exact R.z0 (by simp [MB.all, hm])
    · exact (vb 0 hm).2.2 rfl
  · have := G2.set_ 19 v
    have e : (mcell b t cc).setIfInBounds 19 v = mcell ⟨b.g, b.sb, b.qv, b.ov, v⟩ { t with ws := q } cc := by
      unfold mcell
      rw [List.setIfInBounds_toArray, show 19 = 18 + 1 from rfl, List.set_cons_succ, List.set_append_right _ _ (by rw [zcells_length, R.gl]; omega), zcells_length, R.gl]
      rfl
    rw [e] at this
    exact this
  · exact k.trans k2 (fun x hx => .inl (by simp at hx; simp [MB.all, hx])) (fun x hx => .inl (by simp at hx; subst hx; exact hmem))
  · intro x hx
    simp only [MB.all, List.mem_cons, List.mem_append, Option.mem_toList] at hx ⊢
    rcases hx with hx | hx | (hx | hx) | hx
    · exact .inl (.inl hx)
    · exact .inl (.inr (.inl hx))
    · exact .inl (.inr (.inr (.inl (.inl hx))))
    · exact .inl (.inr (.inr (.inl (.inr hx))))
    · rcases hn x hx with h | h
      · exact .inl (.inr (.inr (.inr h)))
      · exact .inr h
end
end Go.Proofs.YtbiompmklijgoaaDoor
/-
  The contract of package model's add. Conditions: those that stand in each theorem.
-/
namespace Go.Proofs.YtbiompmklijgoaaDoor
set_option linter.unusedVariables false
set_option linter.unusedSimpArgs false
open Go.RowKit Go.Deep Go.Maps

theorem infoObj : (Tryd.prog.info? 84).map (fun i => (i.zero, i.size, i.bytes)) = some (some (.agg #[.int .i64 0, .int .i64 0, .int .i64 0, .int .i64 0]), 4, 32) := by kernel_rfl
theorem ob_one (o : OB) : ∀ u ∈ o.cells, u.oneCell' = true := by
  intro u hu; simp only [OB.cells, List.mem_cons, List.not_mem_nil, or_false] at hu; rcases hu with rfl | rfl | rfl | rfl <;> rfl
theorem blk_newL (w : World) (xs : List Value) (t : TypeId) : ∀ (j : Nat) (u : Value), xs[j]? = some u → (w.alloc (.cells xs.toArray t)).cell? ((⟨w.heap.size, 0, none⟩ : Addr).add j) = some u := by
  intro j u hu
  have b := Blk.new w t xs.toArray
  have e : ((⟨w.heap.size, 0, none⟩ : Addr).add j) = ⟨w.heap.size, j, none⟩ := by unfold Addr.add; by_cases hj : j = 0 <;> simp [hj]
  rw [e, b.cell j, List.getElem?_toArray, hu]
section
variable {w w' W V : World} {b : MB} {t : MT}
theorem step_append_zerosI {ops : Array Oper} {o : Oper} {a : Act} {K : Act → World → Prop} {Q : Exit → Act → World → Prop} {E : Prop} (hgd : o.guard = none) (s x : Operand)
    (ho : o.op = .call { callee := .builtin .append, args := #[s, x], argTypes := #[45, 3] })
    {v : Value} {L : List Int} {y : Int} (k : Nat) (hs : a.eval s = v) (hx : a.eval x = .int .i64 y) (hy : y = (k : Int)) (hown : W.ownsRow 0 3 1 v L.length (zcells L)) (hl : L.length + k ≤ 200000000)
    (h : ∀ v' W', W'.ownsRow 0 3 1 v' (L ++ zer k).length (zcells (L ++ zer k)) → W.grownBy W' v.ownBlock → (v'.ownBlock = v.ownBlock ∨ v'.ownBlock = some W.heap.size) → K (a.put o.dst v') W') :
    if Region.wanted o (yielded ops a.tmps) = true then Oper.wp Tryd.prog o a W K Q else E :=
  step_append_zeros hgd s x ho hs (by rw [hx, hy]) hown hl h
theorem MW.c18 (R : MW w b t) : w.cell? ⟨b.g, 18, none⟩ = some b.ov ∧ w.frozen? ⟨b.g, 18, none⟩ = false := by
  obtain ⟨c, sp, h1, h2, h3, G, B⟩ := R.mem
  exact ⟨(G.cell _).trans (mcell_v R.gl 1), G.frozen 18⟩
theorem MW.c19 (R : MW w b t) : w.cell? ⟨b.g, 19, none⟩ = some b.wv ∧ w.frozen? ⟨b.g, 19, none⟩ = false := by
  obtain ⟨c, sp, h1, h2, h3, G, B⟩ := R.mem
  exact ⟨(G.cell _).trans (mcell_v R.gl 2), G.frozen 19⟩
theorem MW.g_kp (R : MW w b t) {S : List Nat} (k : Kp S w V) (h : b.g ∉ S) : V.cell? ⟨b.g, 18, none⟩ = some b.ov ∧ V.frozen? ⟨b.g, 18, none⟩ = false ∧ V.cell? ⟨b.g, 19, none⟩ = some b.wv ∧ V.frozen? ⟨b.g, 19, none⟩ = false := by
  obtain ⟨c, sp, h1, h2, h3, G, B⟩ := R.mem
  have G2 := G.kp k h
  exact ⟨(G2.cell _).trans (mcell_v R.gl 1), G2.frozen 18, (G2.cell _).trans (mcell_v R.gl 2), G2.frozen 19⟩
set_option maxRecDepth 100000 in
set_option maxHeartbeats 8000000 in
theorem m_add (R : MR w b t) (r d k : Nat) (hs : shB r d k = true) (hn : t.ob.length < 100000) :
    Calls Tryd.prog 101 #[.pointer (some ⟨b.g, 0, none⟩), .agg #[.int .i64 (r : Int), .int .i64 (d : Int), .int .i64 (k : Int)]] w fun e w' => e = .returned (.int .i64 ((t.ob.length : Int) + 1)) ∧ ChgM w b (t.addM r d k) w' := by
  have hsb := of_decide_eq_true hs
  have HOK := hid (R.ok.add hs hn)
  have hwl := R.ok.wl
  obtain ⟨j0, hj0, hy0, hy1, hy2⟩ := info_parts infoObj
  have K0 := Kp.new w (.cells #[.int .i64 (r : Int), .int .i64 (d : Int), .int .i64 (k : Int)] 33)
  have R1 := (R.kp0 K0).w
  have hB := Blk.new w 33 #[.int .i64 (r : Int), .int .i64 (d : Int), .int .i64 (k : Int)]
  have b0 := hB.cell 0
  have b1 := hB.cell 1
  have b2 := hB.cell 2
  obtain ⟨Ao, co, hov, ho1, ho2, _⟩ := own_cut R.O
  obtain ⟨Aw, cw, hwv, hw1, hw2, _⟩ := own_cut R.D
  unfold maxLen at ho2 hw2
  have c18 := R1.c18.1
  have f18 := R1.c18.2
  have c19 := R1.c19.1
  rw [hov] at c18
  rw [hwv] at c19
  have HXB : Hid (w.heap.size ∉ b.all) := fun hm => by have := R.lt _ hm; omega
  have HK0 := hid K0
  have HR1 := hid R1
  have HB := hid hB
  have HOV := hid hov
  have HWV := hid hwv
  have HSB := hid hsb
  have HWL := hid hwl
  clear R K0 R1 hB hov hwv hs hsb hwl
  go_enter Tryd.func101, Tryd.ntmps101
  go_upto_region 1 with fail
  generalize w.alloc (.cells #[.int .i64 (r : Int), .int .i64 (d : Int), .int .i64 (k : Int)] 33) = w1 at *
  go_cut [] (fun wx => ChgW w1 b { t with ob := t.ob ++ [OB.mk r d k t.ws.length] } wx)
  case first =>
    have HO1 : Hid (∀ V, Kp [] w1 V → V.ownsRow 0 84 4 (.slice Ao t.ob.length co) t.ob.length (obcells t.ob)) := fun V kk => by rw [← HOV.out]; exact own_kp0 HR1.out.O kk
    have HN := hid (blk_newL w1 (OB.mk r d k t.ws.length).cells 84)
    have NONE := ob_one (OB.mk r d k t.ws.length)
    have HNO := hid NONE
    have HG : Hid (∀ V, Kp (Value.slice Ao t.ob.length co).ownBlock.toList w1 V → V.cell? ⟨b.g, 18, none⟩ = some (.slice Ao t.ob.length co) ∧ V.frozen? ⟨b.g, 18, none⟩ = false) := fun V kk => by
      rw [← HOV.out] at kk
      have := HR1.out.g_kp kk (fun hm => (HR1.out.blocks.2.2.2 b.g (by simpa using hm)).1 rfl)
      rw [HOV.out] at this
      exact ⟨this.1, this.2.1⟩
    clear NONE
    have hl1 : t.ob.length + 1 ≤ 1000000 := by omega
    have e18 : (w1.alloc (.cells #[.int .i64 (r : Int), .int .i64 (d : Int), .int .i64 (k : Int), .int .i64 (t.ws.length : Int)] 84)).cell? ⟨b.g, 18, none⟩ = some (.slice Ao t.ob.length co) := cell_kp (Kp.new _ _) c18
    go_region_law (first
      | (refine step_append_lies _ (by rfl) (.tmp 9) (.tmp 17) 46 (by rfl) 0 84 j0 (.agg #[.int .i64 0, .int .i64 0, .int .i64 0, .int .i64 0]) 4 32 Tryd.underlying46 hj0 hy0 hy1 hy2 rfl (by omega) (.slice Ao t.ob.length co) t.ob.length (obcells t.ob) (by rfl) (HO1.out _ ((Kp.new _ _).drewN 1)) ⟨w1.heap.size, 0, none⟩ 1 1 (OB.mk r d k t.ws.length).cells (by rfl) rfl HN.out HNO.out (by omega) (by unfold maxLen; omega) (by omega) (Nat.zero_le _) (w1.heap.size + 1) (by simp [World.drew]) ?_; intro g9 c9 w9 hown hgr hat hlt9; have k9 : Kp (Value.slice Ao t.ob.length co).ownBlock.toList w1 w9 := ((Kp.new w1 (.cells (OB.mk r d k t.ws.length).cells.toArray 84)).drewN 1).trans (Kp.of_grown hgr) (by simp) (fun x hx => .inl hx); obtain ⟨q0, q1⟩ := HG.out w9 k9; have HK9 := hid k9; have HO9 := hid hown; have HAT := hid hat; clear hown hgr hat hlt9 k9))
    all_goals (
      have own9 : w9.ownsRow 0 84 4 (.slice (some ⟨g9, 0, none⟩) (t.ob.length + 1) c9) (t.ob ++ [OB.mk r d k t.ws.length]).length (obcells (t.ob ++ [OB.mk r d k t.ws.length])) := by
        have := HO9.out
        rw [List.length_append, obcells_append]
        simpa [obcells] using this
      have HC := hid (HR1.out.setO (v := .slice (some ⟨g9, 0, none⟩) (t.ob.length + 1) c9) (by rw [HOV.out]; exact HK9.out) own9 (fun x hx => by
        rcases HAT.out with e | e
        · exact .inl (by rw [HOV.out, e]; simpa [Value.ownBlock] using hx)
        · refine .inr ?_
          simp [Value.ownBlock] at hx
          omega))
      clear own9
      go_wp2_with fail
      go_meet
      exact HC.out)
  case rest =>
    obtain ⟨b2, eg, es, M2, K2, N2⟩ := hcut
    have B2 := HB.out.kp K2 HXB.out
    have d0 := B2.cell 0
    have d1 := B2.cell 1
    obtain ⟨Aw, cw, hwv, hw1, hw2, _⟩ := own_cut M2.D
    have e19 := M2.c19.1
    rw [hwv, eg] at e19
    have HD2 : Hid (∀ n, (wc.drewN n).ownsRow 0 3 1 (.slice Aw t.ws.length cw) t.ws.length (zcells t.ws)) := fun n => by
      have := own_kp0 M2.D (Kp.draw wc n)
      rw [hwv] at this
      exact this
    have HFIN : Hid (∀ v W', W'.ownsRow 0 3 1 v (t.ws ++ zer (r + d)).length (zcells (t.ws ++ zer (r + d))) → wc.grownBy W' (Value.slice Aw t.ws.length cw).ownBlock → (v.ownBlock = (Value.slice Aw t.ws.length cw).ownBlock ∨ v.ownBlock = some wc.heap.size) → (W'.frozen? ⟨b.g, 19, none⟩ = false ∧ ∃ u, W'.cell? ⟨b.g, 19, none⟩ = some u) ∧ ChgM w b (t.addM r d k) (W'.setCell ⟨b.g, 19, none⟩ v) ∧ ∃ A c, W'.cell? ⟨b.g, 18, none⟩ = some (.slice A (t.ob.length + 1) c)) := by
      intro v W' own gr hat
      have kk : Kp b2.wv.ownBlock.toList wc W' := by rw [hwv]; exact Kp.of_grown gr
      have hC := M2.setD (q := t.ws ++ zer (r + d)) kk own (fun x hx => by
        rcases hat with e | e
        · exact .inl (by rw [hwv, ← e]; exact hx)
        · exact .inr (by rw [e] at hx; injection hx with hx; omega))
      rw [eg] at hC
      have hg := M2.g_kp kk (fun hm => (M2.blocks.2.2.1 b2.g (by simpa using hm)).1 rfl)
      rw [eg] at hg
      obtain ⟨b3, eg3, es3, M3, K3, N3⟩ := hC
      refine ⟨⟨hg.2.2.2, _, hg.2.2.1⟩, ⟨b3, eg3.trans eg, es3.trans es, M3.r HOK.out, ?_, ?_⟩, ?_⟩
      · exact (HK0.out.chain0 K2).trans K3 (fun x hx => .inl hx) (fun x hx => by
          rcases N2 x hx with h | h
          · exact .inl h
          · exact .inr (by have := HK0.out.size; omega))
      · intro x hx
        rcases N3 x hx with h | h
        · rcases N2 x h with h | h
          · exact .inl h
          · exact .inr (by have := HK0.out.size; omega)
        · exact .inr (by have := HK0.out.size; have := K2.size; omega)
      · obtain ⟨A, c, hv, _⟩ := own_cut M2.O
        have := hg.1
        rw [hv] at this
        exact ⟨A, c, by simpa using this⟩
    have hk64 : ((r : Int) + (d : Int)) = ((r + d : Nat) : Int) := by omega
    have hsb := HSB.out
    have HLK : Hid (t.ws.length + (r + d) ≤ 200000000) := by have := HWL.out; show _ ≤ _; omega
    have HY := hid hk64
    clear hk64 M2 K2 N2 B2 hwv c18 f18 c19
    have hsb1 : (r : Int) ≤ 15 := by omega
    have hsb2 : (d : Int) ≤ 200 := by omega
    clear hsb
    have hwr : IntKind.i64.wrap ((r : Int) + (d : Int)) = (r : Int) + (d : Int) := by rw [IntKind.wrap_i64]; omega
    go_wp2
    go_region_law (first
      | (refine step_append_zerosI (by rfl) (.tmp 25) (.tmp 30) (by rfl) (r + d) (by rfl) (by rfl) HY.out (HD2.out 1) HLK.out ?_; intro v9 w9 hown hgr hat; obtain ⟨⟨q1, u9, q0⟩, HC9, A9, c9, q2⟩ := HFIN.out v9 w9 hown ⟨hgr.os, hgr.tape, hgr.output, hgr.size, hgr.block⟩ hat; obtain ⟨A8, c8, hv8, _⟩ := own_cut hown; subst hv8; have HCC := hid HC9; clear hwr; clear hown hgr hat HC9))
    all_goals (
      go_wp2
      go_ret
      refine ⟨?_, by first | exact HCC.out | (have h := HCC.out; rw [List.length_append] at h; exact h)⟩
      first | rfl | (congr 2))
end
end Go.Proofs.YtbiompmklijgoaaDoor
/-
  The contracts of package model's doNew. Conditions: those that stand in each theorem.
-/
namespace Go.Proofs.YtbiompmklijgoaaDoor
set_option linter.unusedVariables false
set_option linter.unusedSimpArgs false
open Go.RowKit Go.Deep Go.Maps

section
variable {w w' W V : World} {b b0 : MB} {t : MT} {x : MA} {ef : Array Value}
set_option maxRecDepth 100000 in
set_option maxHeartbeats 4000000 in
theorem m_doNew (R : MR w b t) (m : Nat) (hm : m < t.n) (xk xn : Int) (a : Nat) (ha : a < 16) (xb xi : Int) (r d kk : Nat) (hs : shB r d kk = true) (hn : t.ob.length < 100000) :
    Calls Tryd.prog 83 #[.pointer (some ⟨b.g, 0, none⟩), .pointer (some ⟨b.sb, m * 16, none⟩), .agg #[.int .i64 xk, .int .i64 (a : Int), .int .i64 xb, .int .i64 xi, .int .i64 xn, .int .i64 (r : Int), .int .i64 (d : Int), .int .i64 (kk : Int)]] w fun e w' => e = .returned (.agg #[.slice none 0 0, .int .i64 0, .int .i64 0, .int .i64 0, .int .i64 0, .int .i64 ((t.ob.length : Int) + 1), .int .i64 0]) ∧ ChgM w b ((t.addM r d kk).setS (m * 16 + a) ((t.ob.length : Int) + 1)) w' := by
  have D1 : DC w b b t ⟨xk, (a : Int), xb, xi, xn, (r : Int), (d : Int), (kk : Int)⟩ ef0 _ := DC.start R
  unfold MA.cells ef0 at D1
  simp only at D1
  have hok := R.ok
  have hsl := hok.sl
  have h4 := hok.n4
  have q1 : (a : Int) < 16 := by omega
  have hz16 : m * 16 + a < 16 * t.n := by omega
  have hz16b : m * 16 + a < 16 * (t.addM r d kk).n := hz16
  have hidn : (t.addM r d kk).idn ((t.ob.length : Int) + 1) := by
    refine ⟨by omega, ?_⟩
    show (t.ob.length : Int) + 1 ≤ ((t.addM r d kk).ob.length : Int)
    simp [MT.addM]
  have hsl2 : (t.addM r d kk).sl.length = 16 * t.n := hsl
  have HSL := hid hsl2
  have HZ16 := hid hz16b
  have HID := hid hidn
  clear hz16 hz16b hidn hsl2
  have HR := hid R
  clear R
  go_enter Tryd.func83, Tryd.ntmps83
  go_upto_region 1 with fail
  generalize ((w.alloc (.cells #[.int .i64 xk, .int .i64 (a : Int), .int .i64 xb, .int .i64 xi, .int .i64 xn, .int .i64 (r : Int), .int .i64 (d : Int), .int .i64 (kk : Int)] 35)).alloc (.cells #[.slice none 0 0, .int .i64 0, .int .i64 0, .int .i64 0, .int .i64 0, .int .i64 0, .int .i64 0] 73)) = W2 at D1 ⊢
  have HD1 := hid D1
  have HA1 := hid D1.A
  clear D1 hok hsl
  refine wp_region_held_drew (S := fun wz => Blk wz w.heap.size 35 #[.int .i64 xk, .int .i64 (a : Int), .int .i64 xb, .int .i64 xi, .int .i64 xn, .int .i64 (r : Int), .int .i64 (d : Int), .int .i64 (kk : Int)]) (by kernel_rfl) ?_ (fun hHeld => ?_)
  · exact (HD1.out.A.kp (Kp.draw _ 1) (by simp) : Blk _ _ _ _)
  refine wpAnyH_take (i := 0) (v := _) rfl (by kernel_rfl) (by kernel_rfl) (by kernel_rfl) (fun _ _ _ h => h) (Or.inl ⟨by rfl, by (intro wz hSw; go_simp; try with_reducible rfl)⟩) (by assumption) ?_
  refine wpAnyH_take (i := 1) (v := _) rfl (by kernel_rfl) (by kernel_rfl) (by kernel_rfl) (fun _ _ _ h => h) (Or.inl ⟨by rfl, by (intro wz hSw; go_simp; try with_reducible rfl)⟩) (by assumption) ?_
  refine wpAnyH_take (i := 2) (v := _) rfl (by kernel_rfl) (by kernel_rfl) (by kernel_rfl) (fun _ _ _ h => h) (Or.inl ⟨by rfl, by (intro wz hSw; have hcj : wz.cell? ⟨w.heap.size, 1, none⟩ = some (.int .i64 (a : Int)) := hSw.cell 1; go_simp; try with_reducible rfl)⟩) (by assumption) ?_
  refine wpAnyH_take (i := 3) (v := _) rfl (by kernel_rfl) (by kernel_rfl) (by kernel_rfl) (fun _ _ _ h => h) (Or.inl ⟨by rfl, by (intro wz hSw; go_simp; try with_reducible rfl)⟩) (by assumption) ?_
  refine wpAnyH_take (i := 4) (v := _) rfl (by kernel_rfl) (by kernel_rfl) (by kernel_rfl) (fun _ _ _ h => h) (Or.inl ⟨by rfl, by (intro wz hSw; go_simp; try with_reducible rfl)⟩) (by assumption) ?_
  refine wpAnyH_take (i := 5) (v := _) rfl (by kernel_rfl) (by kernel_rfl) (by kernel_rfl) (fun _ _ _ h => h) (Or.inl ⟨by rfl, by (intro wz hSw; have hc5 : wz.cell? ⟨w.heap.size, 5, none⟩ = some (.int .i64 (r : Int)) := hSw.cell 5; have hc6 : wz.cell? ⟨w.heap.size, 6, none⟩ = some (.int .i64 (d : Int)) := hSw.cell 6; have hc7 : wz.cell? ⟨w.heap.size, 7, none⟩ = some (.int .i64 (kk : Int)) := hSw.cell 7; go_simp; try with_reducible rfl)⟩) (by assumption) ?_
  refine wpAnyH_take (i := 7) (v := _) rfl (by kernel_rfl) (by kernel_rfl) (by kernel_rfl) (fun _ _ _ h => h) (Or.inl ⟨by rfl, by (intro wz hSw; go_simp; try with_reducible rfl)⟩) (by assumption) ?_
  refine wpAnyH_ready (rs := [6]) (by kernel_rfl) (by simp) ?_
  refine AllReadyH.cons rfl (fun K hK => ?_) AllReadyH.nil
  go_simp
  refine (m_add (HD1.out.R.kp0 (Kp.draw _ 1)) r d kk hs hn).mono ?_
  rintro e w3 ⟨rfl, hch3⟩
  obtain ⟨b2, e1, e2, D3⟩ := (HD1.out.kp0 (Kp.draw _ 1)).chg hch3
  have HD3 : Hid (DC w b b2 (t.addM r d kk) ⟨xk, (a : Int), xb, xi, xn, (r : Int), (d : Int), (kk : Int)⟩ ef0 w3) := D3
  have s2 := HD3.out.R.cs HZ16.out
  have s2f := HD3.out.R.cs_f (m * 16 + a)
  rw [e2] at s2 s2f
  have HE2 := hid e2
  generalize (t.addM r d kk).sl.getD (m * 16 + a) 0 = y2 at s2
  clear hch3 D3 e1 e2
  try go_wp2_with fail
  refine hK.out _ _ ?_ (fun hHeld => ?_)
  · exact HD3.out.A
  clear hK K
  refine wpAnyH_take (i := 8) (v := _) rfl (by kernel_rfl) (by kernel_rfl) (by kernel_rfl) (fun _ _ _ h => h) (Or.inl ⟨by rfl, by (intro wz hSw; go_simp; try with_reducible rfl)⟩) (by assumption) ?_
  refine wpAnyH_ready (rs := [9]) (by kernel_rfl) (by simp) ?_
  refine AllReadyH.cons rfl (fun K hK => ?_) AllReadyH.nil
  go_simp
  refine hK.out _ _ ?_ (fun hHeld => ?_)
  · exact (by have h := (HD3.out.setS HZ16.out HID.out).A; rw [HE2.out] at h; exact h)
  clear hK K
  refine wpAnyH_done (by kernel_rfl) ?_ _
  have D5 : DC w b b2 ((t.addM r d kk).setS (m * 16 + a) ((t.ob.length : Int) + 1)) ⟨xk, (a : Int), xb, xi, xn, (r : Int), (d : Int), (kk : Int)⟩ ef0 (w3.setCell ⟨b.sb, m * 16 + a, none⟩ (.int .i64 ((t.ob.length : Int) + 1))) := by
    have h := HD3.out.setS HZ16.out HID.out
    rw [HE2.out] at h
    exact h
  obtain ⟨z, hz⟩ : ∃ z, z = (t.ob.length : Int) + 1 := ⟨_, rfl⟩
  rw [← hz] at D5 ⊢
  have HZZ := hid hz
  clear hz
  generalize w3.setCell ⟨b.sb, m * 16 + a, none⟩ (.int .i64 z) = w5 at D5 ⊢
  clear hHeld s2 s2f
  have HD6 : Hid (DC w b b2 ((t.addM r d kk).setS (m * 16 + a) z) ⟨xk, (a : Int), xb, xi, xn, (r : Int), (d : Int), (kk : Int)⟩ ef0 w5.drew) := D5.kp0 (Kp.draw _ 1)
  clear D5
  go_wp2_with fail
  refine wp_region_held_drew (S := fun wz => Blk wz w.heap.size 35 #[.int .i64 xk, .int .i64 (a : Int), .int .i64 xb, .int .i64 xi, .int .i64 xn, .int .i64 (r : Int), .int .i64 (d : Int), .int .i64 (kk : Int)]) (by kernel_rfl) ?_ (fun hHeld => ?_)
  · exact HD6.out.A
  generalize w5.drew = wc at HD6 hHeld ⊢
  have s1 : wc.cell? ⟨b.sb, m * 16 + a, none⟩ = some (.int .i64 z) := by
    rw [← HE2.out, HD6.out.R.cs HZ16.out]
    show some (Value.int .i64 (((t.addM r d kk).sl.set (m * 16 + a) z).getD (m * 16 + a) 0)) = _
    rw [getD_set, if_pos ⟨rfl, by rw [HSL.out]; exact HZ16.out⟩]
  have hcut := HD6.out
  obtain ⟨hth, hch, hrg⟩ := DC.fin (ef' := #[.slice none 0 0, .int .i64 0, .int .i64 0, .int .i64 0, .int .i64 0, .int .i64 z, .int .i64 0]) hcut rfl rfl
  have HTH := hid hth
  have HCH := hid hch
  have HRG := hid hrg
  clear hth hch hrg
  clear hcut
  refine wpAnyH_take (i := 0) (v := _) rfl (by kernel_rfl) (by kernel_rfl) (by kernel_rfl) (fun _ _ _ h => h) (Or.inl ⟨by rfl, by (intro wz hSw; go_simp; try with_reducible rfl)⟩) (by assumption) ?_
  refine wpAnyH_take (i := 1) (v := _) rfl (by kernel_rfl) (by kernel_rfl) (by kernel_rfl) (fun _ _ _ h => h) (Or.inl ⟨by rfl, by (intro wz hSw; go_simp; try with_reducible rfl)⟩) (by assumption) ?_
  refine wpAnyH_take (i := 2) (v := _) rfl (by kernel_rfl) (by kernel_rfl) (by kernel_rfl) (fun _ _ _ h => h) (Or.inl ⟨by rfl, by (intro wz hSw; have hcj : wz.cell? ⟨w.heap.size, 1, none⟩ = some (.int .i64 (a : Int)) := hSw.cell 1; go_simp; try with_reducible rfl)⟩) (by assumption) ?_
  refine wpAnyH_take (i := 3) (v := _) rfl (by kernel_rfl) (by kernel_rfl) (by kernel_rfl) (fun _ _ _ h => h) (Or.inl ⟨by rfl, by (intro wz hSw; go_simp; try with_reducible rfl)⟩) (by assumption) ?_
  refine wpAnyH_take (i := 4) (v := _) rfl (by kernel_rfl) (by kernel_rfl) (by kernel_rfl) (fun _ _ _ h => h) (Or.inl ⟨by rfl, by (intro wz hSw; go_simp; try with_reducible rfl)⟩) (by assumption) ?_
  refine wpAnyH_ready (rs := [5]) (by kernel_rfl) (by simp) ?_
  refine AllReadyH.cons rfl (fun K hK => ?_) AllReadyH.nil
  go_simp
  refine hK.out _ _ ?_ (fun hHeld => ?_)
  · exact hHeld
  clear hK K
  refine wpAnyH_take (i := 6) (v := _) rfl (by kernel_rfl) (by kernel_rfl) (by kernel_rfl) (fun _ _ _ h => h) (Or.inl ⟨by rfl, by (intro wz hSw; go_simp; try with_reducible rfl)⟩) (by assumption) ?_
  refine wpAnyH_ready (rs := [7]) (by kernel_rfl) (by simp) ?_
  refine AllReadyH.cons rfl (fun K hK => ?_) AllReadyH.nil
  refine step_store_mid (by rfl) 73 (.tmp 6) (.tmp 22) (by rfl) (w.heap.size + 1) 0 #[.slice none 0 0, .int .i64 0, .int .i64 0, .int .i64 0, .int .i64 0, .int .i64 z, .int .i64 0] (by rfl) (by rfl) HTH.out effInfo effOne ?_
  refine hK.out _ _ ?_ (fun hHeld => ?_)
  · exact hHeld.kp (Kp.setCells _ _ _ _) (by simp)
  clear hK K
  refine wpAnyH_done (by kernel_rfl) ?_ _
  go_wp2
  generalize wc.setCells (w.heap.size + 1) 0 (#[.slice none 0 0, .int .i64 0, .int .i64 0, .int .i64 0, .int .i64 0, .int .i64 z, .int .i64 0] : Array Value).toList = W9 at HCH HRG ⊢
  refine bodyPost_ret (v := .agg #[.slice none 0 0, .int .i64 0, .int .i64 0, .int .i64 0, .int .i64 0, .int .i64 z, .int .i64 0]) ?_ rfl (by rw [← HZZ.out]; exact ⟨rfl, HCH.out⟩)
  have hl := run_eff rfl HRG.out
  simp [results, Tryd.results83, asAddr, Act.put, hl]
end
end Go.Proofs.YtbiompmklijgoaaDoor
/-
  The contracts of package model's doStore. Conditions: those that stand in each theorem.
-/
namespace Go.Proofs.YtbiompmklijgoaaDoor
set_option linter.unusedVariables false
set_option linter.unusedSimpArgs false
open Go.RowKit Go.Deep Go.Maps

section
variable {w w' W V : World} {b b0 : MB} {t : MT} {x : MA} {ef : Array Value}
/-- A new block, filled. -/
theorem fillN {W : World} {g : Nat} {T : TypeId} {cs vs : Array Value} (hB : Blk W g T cs) (hc : cs.size = vs.size) (hk : Kp [] w W) (hg : w.heap.size ≤ g) : W.there g 0 vs.size ∧ Kp [] w (W.setCells g 0 vs.toList) ∧ (W.setCells g 0 vs.toList).rangeAt g 0 vs.toList := by
  have ht : W.there g 0 vs.size := fun j hj => by
    refine ⟨?_, ?_⟩
    · rw [Nat.zero_add, hB.cell j, Array.getElem?_eq_getElem (by omega)]; rfl
    · rw [Nat.zero_add]; exact hB.frozen j
  exact ⟨ht, hk.trans (Kp.setCells _ _ _ _) (by simp) (by simp; exact hg), World.rangeAt_setCells_same W g 0 vs.toList (by simpa using ht)⟩
theorem range_kp {W V : World} {S : List Nat} {g : Nat} {cs : List Value} (h : W.rangeAt g 0 cs) (k : Kp S W V) (hS : g ∉ S) : V.rangeAt g 0 cs := fun j v hj => cell_kps k (h j v hj) hS
set_option maxRecDepth 100000 in
set_option maxHeartbeats 4000000 in
theorem m_doStore (R : MR w b t) (m : Nat) (hm : m < t.n) (xk xn xr xd xs : Int) (a : Nat) (ha : a < 16) (c : Nat) (hc : c < 16) (i : Nat) (y z o : Int) (hyy : y = t.sl.getD (m * 16 + a) 0) (hzz : z = t.sl.getD (m * 16 + c) 0) (hh : t.has y = true) (hi : i < (t.obj y).r) (hoo : o = t.ws.getD ((t.obj y).f + i) 0) :
    Calls Tryd.prog 85 #[.pointer (some ⟨b.g, 0, none⟩), .pointer (some ⟨b.sb, m * 16, none⟩), .agg #[.int .i64 xk, .int .i64 (a : Int), .int .i64 (c : Int), .int .i64 (i : Int), .int .i64 xn, .int .i64 xr, .int .i64 xd, .int .i64 xs]] w fun e w' => e = .returned (.agg #[.slice none 0 0, .int .i64 y, .int .i64 (i : Int), .int .i64 o, .int .i64 z, .int .i64 0, .int .i64 0]) ∧ ChgM w b (t.setW ((t.obj y).f + i) z) w' := by
  have D1 : DC w b b t ⟨xk, (a : Int), (c : Int), (i : Int), xn, xr, xd, xs⟩ ef0 _ := DC.start R
  unfold MA.cells ef0 at D1
  simp only at D1
  have hok := R.ok
  have hsl := hok.sl
  have h4 := hok.n4
  have q1 : (a : Int) < 16 := by omega
  have q2 : (c : Int) < 16 := by omega
  have hz16 : m * 16 + a < 16 * t.n := by omega
  have hy16 : m * 16 + c < 16 * t.n := by omega
  have hiz : t.idn (t.sl.getD (m * 16 + c) 0) := getD_of hok.isl (by rw [hsl]; exact hy16)
  rw [← hzz] at hiz
  obtain ⟨k, hk, hko, hob⟩ := MT.has_nat hh
  have hput : (t.setW ((t.obj y).f + i) z).Ok := hok.setW (hok.w64_idn hiz) (fun _ _ _ _ _ => hiz)
  have hfit := hok.fit k hko
  rw [← hob] at hfit
  have hsm := hok.small.2
  obtain ⟨fo, hfo⟩ : ∃ f, f = (t.obj y).f := ⟨_, rfl⟩
  obtain ⟨n, hn⟩ : ∃ n, n = (t.obj y).r := ⟨_, rfl⟩
  rw [← hn] at hi
  rw [← hfo, ← hn] at hfit
  rw [← hfo] at hput hoo ⊢
  have hq : (i : Int) < (n : Int) := by omega
  have hwl : fo + i < t.ws.length := by omega
  have hnl : n ≤ 100000000 := by omega
  obtain ⟨g0, c0, hwv, hc0⟩ := R.dat hwl
  have hpos : 0 < n := by omega
  have HY := hid hyy
  have HZ := hid hzz
  have HO := hid hoo
  have HPUT := hid hput
  have HH := hid hh
  have HFO := hid hfo
  have HN := hid hn
  have HWV := hid hwv
  have HWL := hid hwl
  have HPOS := hid hpos
  have HZ16 := hid hz16
  have HY16 := hid hy16
  clear hyy hzz hoo hput hh hk hko hob hfit hfo hn hwv hc0 hwl hpos hi hsm hiz hz16 hy16
  have HR := hid R
  clear R
  go_enter Tryd.func85, Tryd.ntmps85
  go_upto_region 1 with fail
  generalize ((w.alloc (.cells #[.int .i64 xk, .int .i64 (a : Int), .int .i64 (c : Int), .int .i64 (i : Int), .int .i64 xn, .int .i64 xr, .int .i64 xd, .int .i64 xs] 35)).alloc (.cells #[.slice none 0 0, .int .i64 0, .int .i64 0, .int .i64 0, .int .i64 0, .int .i64 0, .int .i64 0] 73)) = W2 at D1 ⊢
  have HD1 := hid D1
  have s1 := D1.R.cs HZ16.out
  rw [← HY.out] at s1
  have HA1 := hid D1.A
  clear D1 hok hsl
  refine wp_region_held_drew (S := fun wz => Blk wz w.heap.size 35 #[.int .i64 xk, .int .i64 (a : Int), .int .i64 (c : Int), .int .i64 (i : Int), .int .i64 xn, .int .i64 xr, .int .i64 xd, .int .i64 xs]) (by kernel_rfl) ?_ (fun hHeld => ?_)
  · exact (HD1.out.A.kp (Kp.draw _ 1) (by simp) : Blk _ _ _ _)
  refine wpAnyH_take (i := 0) (v := _) rfl (by kernel_rfl) (by kernel_rfl) (by kernel_rfl) (fun _ _ _ h => h) (Or.inl ⟨by rfl, by (intro wz hSw; go_simp; try with_reducible rfl)⟩) (by assumption) ?_
  refine wpAnyH_take (i := 1) (v := _) rfl (by kernel_rfl) (by kernel_rfl) (by kernel_rfl) (fun _ _ _ h => h) (Or.inl ⟨by rfl, by (intro wz hSw; go_simp; try with_reducible rfl)⟩) (by assumption) ?_
  refine wpAnyH_take (i := 2) (v := _) rfl (by kernel_rfl) (by kernel_rfl) (by kernel_rfl) (fun _ _ _ h => h) (Or.inl ⟨by rfl, by (intro wz hSw; go_simp; try with_reducible rfl)⟩) (by assumption) ?_
  refine wpAnyH_take (i := 3) (v := _) rfl (by kernel_rfl) (by kernel_rfl) (by kernel_rfl) (fun _ _ _ h => h) (Or.inl ⟨by rfl, by (intro wz hSw; have hcj : wz.cell? ⟨w.heap.size, 1, none⟩ = some (.int .i64 (a : Int)) := hSw.cell 1; go_simp; try with_reducible rfl)⟩) (by assumption) ?_
  refine wpAnyH_take (i := 4) (v := _) rfl (by kernel_rfl) (by kernel_rfl) (by kernel_rfl) (fun _ _ _ h => h) (Or.inl ⟨by rfl, by (intro wz hSw; go_simp; try with_reducible rfl)⟩) (by assumption) ?_
  refine wpAnyH_take (i := 5) (v := _) rfl (by kernel_rfl) (by kernel_rfl) (by kernel_rfl) (fun _ _ _ h => h) (Or.inl ⟨by rfl, by (intro wz hSw; go_simp; try with_reducible rfl)⟩) (by assumption) ?_
  refine wpAnyH_take (i := 8) (v := _) rfl (by kernel_rfl) (by kernel_rfl) (by kernel_rfl) (fun _ _ _ h => h) (Or.inl ⟨by rfl, by (intro wz hSw; go_simp; try with_reducible rfl)⟩) (by assumption) ?_
  refine wpAnyH_take (i := 9) (v := _) rfl (by kernel_rfl) (by kernel_rfl) (by kernel_rfl) (fun _ _ _ h => h) (Or.inl ⟨by rfl, by (intro wz hSw; have hcj : wz.cell? ⟨w.heap.size, 3, none⟩ = some (.int .i64 (i : Int)) := hSw.cell 3; go_simp; try with_reducible rfl)⟩) (by assumption) ?_
  refine wpAnyH_ready (rs := [6]) (by kernel_rfl) (by simp) ?_
  refine AllReadyH.cons rfl (fun K hK => ?_) AllReadyH.nil
  go_simp
  refine hK.out _ _ ?_ (fun hHeld => ?_)
  · exact hHeld
  clear hK K
  refine wpAnyH_ready (rs := [7]) (by kernel_rfl) (by simp) ?_
  refine AllReadyH.cons rfl (fun K hK => ?_) AllReadyH.nil
  go_simp
  refine (m_refs (HD1.out.R.kp0 (Kp.draw _ 1)) HH.out).mono ?_
  rintro e w3 ⟨v, rfl, hv, hk3⟩
  rw [← HN.out, ← HFO.out] at hv
  obtain ⟨cv, rfl, hc1, hc2⟩ := hv.at_ HPOS.out HWV.out
  unfold maxLen at hc2
  have HD3 : Hid (DC w b b t ⟨xk, (a : Int), (c : Int), (i : Int), xn, xr, xd, xs⟩ ef0 w3) := (HD1.out.kp0 (Kp.draw _ 1)).kp0 hk3
  have HK3 := hid hk3
  clear hv hk3
  try go_wp2_with fail
  refine hK.out _ _ ?_ (fun hHeld => ?_)
  · exact hHeld.kp HK3.out (by simp)
  clear hK K
  refine wpAnyH_take (i := 10) (v := _) rfl (by kernel_rfl) (by kernel_rfl) (by kernel_rfl) (fun _ _ _ h => h) (Or.inl ⟨by rfl, by (intro wz hSw; go_simp; try with_reducible rfl)⟩) (by assumption) ?_
  refine wpAnyH_take (i := 11) (v := _) rfl (by kernel_rfl) (by kernel_rfl) (by kernel_rfl) (fun _ _ _ h => h) (Or.inl ⟨by rfl, by (intro wz hSw; go_simp; try with_reducible rfl)⟩) (by assumption) ?_
  refine wpAnyH_done (by kernel_rfl) ?_ _
  have HD4 : Hid (DC w b b t ⟨xk, (a : Int), (c : Int), (i : Int), xn, xr, xd, xs⟩ ef0 w3.drew) := HD3.out.kp0 (Kp.draw _ 1)
  go_wp2_with fail
  refine wp_region_held_drew (S := fun wz => Blk wz w.heap.size 35 #[.int .i64 xk, .int .i64 (a : Int), .int .i64 (c : Int), .int .i64 (i : Int), .int .i64 xn, .int .i64 xr, .int .i64 xd, .int .i64 xs] ∧ wz.cell? ⟨b.sb, m * 16 + a, none⟩ = some (.int .i64 y) ∧ wz.cell? ⟨b.sb, m * 16 + c, none⟩ = some (.int .i64 z) ∧ wz.cell? ⟨g0, fo + i, none⟩ = some (.int .i64 o)) (by kernel_rfl) ?_ (fun hHeld => ?_)
  · exact ⟨HD4.out.A, (by rw [HY.out]; exact HD4.out.R.cs HZ16.out), (by rw [HZ.out]; exact HD4.out.R.cs HY16.out), (by rw [HO.out]; exact HD4.out.R.dat2 HWV.out HWL.out)⟩
  clear s1
  generalize w3.drew = w4 at HD4 hHeld ⊢
  have HLB : Hid (b.sb < w4.heap.size) := cell_lt hHeld.2.1
  have HLG : Hid (g0 < w4.heap.size) := cell_lt hHeld.2.2.2
  obtain ⟨ht, hkn, hrn⟩ := fillN (vs := #[.slice none 0 0, .int .i64 y, .int .i64 (i : Int), .int .i64 o, .int .i64 z, .int .i64 0, .int .i64 0]) (Blk.new w4 73 #[.slice none 0 0, .int .i64 0, .int .i64 0, .int .i64 0, .int .i64 0, .int .i64 0, .int .i64 0]) rfl (Kp.new w4 _) (Nat.le_refl _)
  have HT := hid ht
  have HKN := hid hkn
  have HRN := hid hrn
  clear ht hkn hrn
  refine wpAnyH_take (i := 0) (v := _) rfl (by kernel_rfl) (by kernel_rfl) (by kernel_rfl) (fun _ _ _ h => h) (Or.inl ⟨by rfl, by (intro wz hSw; go_simp; try with_reducible rfl)⟩) (by assumption) ?_
  refine wpAnyH_take (i := 1) (v := _) rfl (by kernel_rfl) (by kernel_rfl) (by kernel_rfl) (fun _ _ _ h => h) (Or.inl ⟨by rfl, by (intro wz hSw; go_simp; try with_reducible rfl)⟩) (by assumption) ?_
  refine wpAnyH_take (i := 2) (v := _) rfl (by kernel_rfl) (by kernel_rfl) (by kernel_rfl) (fun _ _ _ h => h) (Or.inl ⟨by rfl, by (intro wz hSw; have hcj : wz.cell? ⟨w.heap.size, 1, none⟩ = some (.int .i64 (a : Int)) := hSw.1.cell 1; go_simp; try with_reducible rfl)⟩) (by assumption) ?_
  refine wpAnyH_take (i := 3) (v := _) rfl (by kernel_rfl) (by kernel_rfl) (by kernel_rfl) (fun _ _ _ h => h) (Or.inl ⟨by rfl, by (intro wz hSw; go_simp; try with_reducible rfl)⟩) (by assumption) ?_
  refine wpAnyH_take (i := 4) (v := _) rfl (by kernel_rfl) (by kernel_rfl) (by kernel_rfl) (fun _ _ _ h => h) (Or.inl ⟨by rfl, by (intro wz hSw; go_simp; try with_reducible rfl)⟩) (by assumption) ?_
  refine wpAnyH_take (i := 5) (v := _) rfl (by kernel_rfl) (by kernel_rfl) (by kernel_rfl) (fun _ _ _ h => h) (Or.inl ⟨by rfl, by (intro wz hSw; have hcj := hSw.2.1; go_simp; try with_reducible rfl)⟩) (by assumption) ?_
  refine wpAnyH_take (i := 6) (v := _) rfl (by kernel_rfl) (by kernel_rfl) (by kernel_rfl) (fun _ _ _ h => h) (Or.inl ⟨by rfl, by (intro wz hSw; go_simp; try with_reducible rfl)⟩) (by assumption) ?_
  refine wpAnyH_take (i := 7) (v := _) rfl (by kernel_rfl) (by kernel_rfl) (by kernel_rfl) (fun _ _ _ h => h) (Or.inl ⟨by rfl, by (intro wz hSw; have hcj : wz.cell? ⟨w.heap.size, 3, none⟩ = some (.int .i64 (i : Int)) := hSw.1.cell 3; go_simp; try with_reducible rfl)⟩) (by assumption) ?_
  refine wpAnyH_take (i := 8) (v := _) rfl (by kernel_rfl) (by kernel_rfl) (by kernel_rfl) (fun _ _ _ h => h) (Or.inl ⟨by rfl, by (intro wz hSw; go_simp; try with_reducible rfl)⟩) (by assumption) ?_
  refine wpAnyH_take (i := 9) (v := _) rfl (by kernel_rfl) (by kernel_rfl) (by kernel_rfl) (fun _ _ _ h => h) (Or.inl ⟨by rfl, by (intro wz hSw; go_simp; try with_reducible rfl)⟩) (by assumption) ?_
  refine wpAnyH_take (i := 10) (v := _) rfl (by kernel_rfl) (by kernel_rfl) (by kernel_rfl) (fun _ _ _ h => h) (Or.inl ⟨by rfl, by (intro wz hSw; have hcj := hSw.2.2.2; go_simp; try with_reducible rfl)⟩) (by assumption) ?_
  refine wpAnyH_take (i := 11) (v := _) rfl (by kernel_rfl) (by kernel_rfl) (by kernel_rfl) (fun _ _ _ h => h) (Or.inl ⟨by rfl, by (intro wz hSw; go_simp; try with_reducible rfl)⟩) (by assumption) ?_
  refine wpAnyH_take (i := 12) (v := _) rfl (by kernel_rfl) (by kernel_rfl) (by kernel_rfl) (fun _ _ _ h => h) (Or.inl ⟨by rfl, by (intro wz hSw; go_simp; try with_reducible rfl)⟩) (by assumption) ?_
  refine wpAnyH_take (i := 13) (v := _) rfl (by kernel_rfl) (by kernel_rfl) (by kernel_rfl) (fun _ _ _ h => h) (Or.inl ⟨by rfl, by (intro wz hSw; have hcj : wz.cell? ⟨w.heap.size, 2, none⟩ = some (.int .i64 (c : Int)) := hSw.1.cell 2; go_simp; try with_reducible rfl)⟩) (by assumption) ?_
  refine wpAnyH_take (i := 14) (v := _) rfl (by kernel_rfl) (by kernel_rfl) (by kernel_rfl) (fun _ _ _ h => h) (Or.inl ⟨by rfl, by (intro wz hSw; go_simp; try with_reducible rfl)⟩) (by assumption) ?_
  refine wpAnyH_take (i := 15) (v := _) rfl (by kernel_rfl) (by kernel_rfl) (by kernel_rfl) (fun _ _ _ h => h) (Or.inl ⟨by rfl, by (intro wz hSw; go_simp; try with_reducible rfl)⟩) (by assumption) ?_
  refine wpAnyH_take (i := 16) (v := _) rfl (by kernel_rfl) (by kernel_rfl) (by kernel_rfl) (fun _ _ _ h => h) (Or.inl ⟨by rfl, by (intro wz hSw; have hcj := hSw.2.2.1; go_simp; try with_reducible rfl)⟩) (by assumption) ?_
  refine wpAnyH_take (i := 17) (v := _) rfl (by kernel_rfl) (by kernel_rfl) (by kernel_rfl) (fun _ _ _ h => h) (Or.inl ⟨by rfl, by (intro wz hSw; go_simp; try with_reducible rfl)⟩) (by assumption) ?_
  refine wpAnyH_ready (rs := [18]) (by kernel_rfl) (by simp) ?_
  refine AllReadyH.cons rfl (fun K hK => ?_) AllReadyH.nil
  go_simp
  refine hK.out _ _ ?_ (fun hHeld => ?_)
  · exact ⟨hHeld.1.kp (Kp.new _ _) (by simp), cell_kp (Kp.new _ _) hHeld.2.1, cell_kp (Kp.new _ _) hHeld.2.2.1, cell_kp (Kp.new _ _) hHeld.2.2.2⟩
  clear hK K
  refine wpAnyH_ready (rs := [19]) (by kernel_rfl) (by simp) ?_
  refine AllReadyH.cons rfl (fun K hK => ?_) AllReadyH.nil
  refine step_store_mid (by rfl) 73 (.tmp 8) (.tmp 37) (by rfl) w4.heap.size 0 #[.slice none 0 0, .int .i64 y, .int .i64 (i : Int), .int .i64 o, .int .i64 z, .int .i64 0, .int .i64 0] (by rfl) (by rfl) HT.out effInfo effOne ?_
  refine hK.out _ _ ?_ (fun hHeld => ?_)
  · exact ⟨hHeld.1.kp (Kp.setCells _ _ _ _) (by simp; have := HD4.out.lt; omega), cell_kps (Kp.setCells _ _ _ _) hHeld.2.1 (by simp; have := HLB.out; have := HD4.out.lt; omega), cell_kps (Kp.setCells _ _ _ _) hHeld.2.2.1 (by simp; have := HLB.out; have := HD4.out.lt; omega), cell_kps (Kp.setCells _ _ _ _) hHeld.2.2.2 (by simp; have := HLG.out; omega)⟩
  clear hK K
  refine wpAnyH_done (by kernel_rfl) ?_ _
  have D6 : DC w b b t ⟨xk, (a : Int), (c : Int), (i : Int), xn, xr, xd, xs⟩ ef0 ((w4.alloc (.cells #[.slice none 0 0, .int .i64 0, .int .i64 0, .int .i64 0, .int .i64 0, .int .i64 0, .int .i64 0] 73)).setCells w4.heap.size 0 (#[.slice none 0 0, .int .i64 y, .int .i64 (i : Int), .int .i64 o, .int .i64 z, .int .i64 0, .int .i64 0] : Array Value).toList) := HD4.out.kp0 HKN.out
  have HLT : Hid (w.heap.size + 2 ≤ w4.heap.size) := HD4.out.lt
  have HLN : Hid (∀ x ∈ b.all, x < w4.heap.size) := HD4.out.R.lt
  clear hHeld
  generalize (w4.alloc (.cells #[.slice none 0 0, .int .i64 0, .int .i64 0, .int .i64 0, .int .i64 0, .int .i64 0, .int .i64 0] 73)).setCells w4.heap.size 0 (#[.slice none 0 0, .int .i64 y, .int .i64 (i : Int), .int .i64 o, .int .i64 z, .int .i64 0, .int .i64 0] : Array Value).toList = w6 at D6 HRN ⊢
  have HD6 : Hid (DC w b b t ⟨xk, (a : Int), (c : Int), (i : Int), xn, xr, xd, xs⟩ ef0 w6.drew) := D6.kp0 (Kp.draw _ 1)
  have HRN2 : Hid (w6.drew.rangeAt w4.heap.size 0 (#[.slice none 0 0, .int .i64 y, .int .i64 (i : Int), .int .i64 o, .int .i64 z, .int .i64 0, .int .i64 0] : Array Value).toList) := range_kp HRN.out (Kp.draw w6 1) (by simp)
  clear D6
  go_wp2_with fail
  refine wp_region_held_drew (S := fun wz => Blk wz w.heap.size 35 #[.int .i64 xk, .int .i64 (a : Int), .int .i64 (c : Int), .int .i64 (i : Int), .int .i64 xn, .int .i64 xr, .int .i64 xd, .int .i64 xs]) (by kernel_rfl) ?_ (fun hHeld => ?_)
  · exact HD6.out.A
  generalize w6.drew = w7 at HD6 HRN2 hHeld ⊢
  have s2 : w7.cell? ⟨b.sb, m * 16 + c, none⟩ = some (.int .i64 z) := by rw [HZ.out]; exact HD6.out.R.cs HY16.out
  have w1 : w7.cell? ⟨g0, fo + i, none⟩ = some (.int .i64 o) := by rw [HO.out]; exact HD6.out.R.dat2 HWV.out HWL.out
  have w1f := HD6.out.R.dat_f HWV.out (fo + i)
  refine wpAnyH_take (i := 0) (v := _) rfl (by kernel_rfl) (by kernel_rfl) (by kernel_rfl) (fun _ _ _ h => h) (Or.inl ⟨by rfl, by (intro wz hSw; go_simp; try with_reducible rfl)⟩) (by assumption) ?_
  refine wpAnyH_take (i := 1) (v := _) rfl (by kernel_rfl) (by kernel_rfl) (by kernel_rfl) (fun _ _ _ h => h) (Or.inl ⟨by rfl, by (intro wz hSw; go_simp; try with_reducible rfl)⟩) (by assumption) ?_
  refine wpAnyH_take (i := 2) (v := _) rfl (by kernel_rfl) (by kernel_rfl) (by kernel_rfl) (fun _ _ _ h => h) (Or.inl ⟨by rfl, by (intro wz hSw; go_simp; try with_reducible rfl)⟩) (by assumption) ?_
  refine wpAnyH_take (i := 3) (v := _) rfl (by kernel_rfl) (by kernel_rfl) (by kernel_rfl) (fun _ _ _ h => h) (Or.inl ⟨by rfl, by (intro wz hSw; have hcj : wz.cell? ⟨w.heap.size, 2, none⟩ = some (.int .i64 (c : Int)) := hSw.cell 2; go_simp; try with_reducible rfl)⟩) (by assumption) ?_
  refine wpAnyH_take (i := 4) (v := _) rfl (by kernel_rfl) (by kernel_rfl) (by kernel_rfl) (fun _ _ _ h => h) (Or.inl ⟨by rfl, by (intro wz hSw; go_simp; try with_reducible rfl)⟩) (by assumption) ?_
  refine wpAnyH_take (i := 5) (v := _) rfl (by kernel_rfl) (by kernel_rfl) (by kernel_rfl) (fun _ _ _ h => h) (Or.inl ⟨by rfl, by (intro wz hSw; go_simp; try with_reducible rfl)⟩) (by assumption) ?_
  refine wpAnyH_ready (rs := [6]) (by kernel_rfl) (by simp) ?_
  refine AllReadyH.cons rfl (fun K hK => ?_) AllReadyH.nil
  go_simp
  refine hK.out _ _ ?_ (fun hHeld => ?_)
  · exact hHeld
  clear hK K
  refine wpAnyH_take (i := 7) (v := _) rfl (by kernel_rfl) (by kernel_rfl) (by kernel_rfl) (fun _ _ _ h => h) (Or.inl ⟨by rfl, by (intro wz hSw; go_simp; try with_reducible rfl)⟩) (by assumption) ?_
  refine wpAnyH_ready (rs := [8]) (by kernel_rfl) (by simp) ?_
  refine AllReadyH.cons rfl (fun K hK => ?_) AllReadyH.nil
  go_simp
  refine hK.out _ _ ?_ (fun hHeld => ?_)
  · exact (HD6.out.setW HWL.out HPUT.out HWV.out).A
  clear hK K
  refine wpAnyH_done (by kernel_rfl) ?_ _
  have hcut : DC w b b (t.setW (fo + i) z) ⟨xk, (a : Int), (c : Int), (i : Int), xn, xr, xd, xs⟩ ef0 (w7.setCell ⟨g0, fo + i, none⟩ (.int .i64 z)) := HD6.out.setW HWL.out HPUT.out HWV.out
  have HRN3 := hid (range_kp HRN2.out (Kp.cell w7 ⟨g0, fo + i, none⟩ (.int .i64 z)) (by simp; have := HLG.out; omega))
  generalize w7.setCell ⟨g0, fo + i, none⟩ (.int .i64 z) = wc at hcut HRN3 ⊢
  clear hHeld s2 w1 w1f
  obtain ⟨hth, hch, hrg⟩ := DC.fin (ef' := #[.slice none 0 0, .int .i64 y, .int .i64 (i : Int), .int .i64 o, .int .i64 z, .int .i64 0, .int .i64 0]) hcut rfl rfl
  have HTH := hid hth
  have HCH := hid hch
  have HRG := hid hrg
  clear hth hch hrg
  clear hcut
  go_wp2_with (first
    | (refine wpList_load_mid (by rfl) 73 (.tmp 8) (by rfl) w4.heap.size 0 (by rfl) _ _ HRN3.out Tryd.underlying73 rfl (by rw [effInfo]; rfl) ?_)
    | (refine wpList_store_mid (by rfl) 73 (.tmp 6) (.tmp 46) (by rfl) (w.heap.size + 1) 0 #[.slice none 0 0, .int .i64 y, .int .i64 (i : Int), .int .i64 o, .int .i64 z, .int .i64 0, .int .i64 0] (by rfl) (by rfl) HTH.out effInfo effOne ?_))
  generalize wc.setCells (w.heap.size + 1) 0 (#[.slice none 0 0, .int .i64 y, .int .i64 (i : Int), .int .i64 o, .int .i64 z, .int .i64 0, .int .i64 0] : Array Value).toList = W9 at HCH HRG ⊢
  refine bodyPost_ret (v := .agg #[.slice none 0 0, .int .i64 y, .int .i64 (i : Int), .int .i64 o, .int .i64 z, .int .i64 0, .int .i64 0]) ?_ rfl ⟨rfl, HCH.out⟩
  have hl := run_eff rfl HRG.out
  simp [results, Tryd.results85, asAddr, Act.put, hl]
end
end Go.Proofs.YtbiompmklijgoaaDoor
/-
  The contracts of package model's doLoad. Conditions: those that stand in each theorem.
-/
namespace Go.Proofs.YtbiompmklijgoaaDoor
set_option linter.unusedVariables false
set_option linter.unusedSimpArgs false
open Go.RowKit Go.Deep Go.Maps

section
variable {w w' W V : World} {b b0 : MB} {t : MT} {x : MA} {ef : Array Value}
set_option maxRecDepth 100000 in
set_option maxHeartbeats 4000000 in
theorem m_doLoad (R : MR w b t) (m : Nat) (hm : m < t.n) (xk xn xr xd xs : Int) (a : Nat) (ha : a < 16) (c : Nat) (hc : c < 16) (i : Nat) (y z : Int) (hyy : y = t.sl.getD (m * 16 + c) 0) (hh : t.has y = true) (hi : i < (t.obj y).r) (hzz : z = t.ws.getD ((t.obj y).f + i) 0) :
    Calls Tryd.prog 84 #[.pointer (some ⟨b.g, 0, none⟩), .pointer (some ⟨b.sb, m * 16, none⟩), .agg #[.int .i64 xk, .int .i64 (a : Int), .int .i64 (c : Int), .int .i64 (i : Int), .int .i64 xn, .int .i64 xr, .int .i64 xd, .int .i64 xs]] w fun e w' => e = .returned (.agg #[.slice none 0 0, .int .i64 0, .int .i64 0, .int .i64 0, .int .i64 0, .int .i64 0, .int .i64 z]) ∧ ChgM w b (t.setS (m * 16 + a) z) w' := by
  have D1 : DC w b b t ⟨xk, (a : Int), (c : Int), (i : Int), xn, xr, xd, xs⟩ ef0 _ := DC.start R
  unfold MA.cells ef0 at D1
  simp only at D1
  have hok := R.ok
  have hsl := hok.sl
  have h4 := hok.n4
  have q1 : (a : Int) < 16 := by omega
  have q2 : (c : Int) < 16 := by omega
  have hz16 : m * 16 + a < 16 * t.n := by omega
  have hy16 : m * 16 + c < 16 * t.n := by omega
  obtain ⟨k, hk, hko, hob⟩ := MT.has_nat hh
  have hiz : t.idn z := by
    rw [hzz, hob]
    exact hok.irf k i hko (by rw [← hob]; exact hi)
  have hfit := hok.fit k hko
  rw [← hob] at hfit
  have hsm := hok.small.2
  obtain ⟨fo, hfo⟩ : ∃ f, f = (t.obj y).f := ⟨_, rfl⟩
  obtain ⟨n, hn⟩ : ∃ n, n = (t.obj y).r := ⟨_, rfl⟩
  rw [← hn] at hi
  rw [← hfo, ← hn] at hfit
  rw [← hfo] at hzz
  have hq : (i : Int) < (n : Int) := by omega
  have hwl : fo + i < t.ws.length := by omega
  have hnl : n ≤ 100000000 := by omega
  obtain ⟨g0, c0, hwv, hc0⟩ := R.dat hwl
  have hpos : 0 < n := by omega
  have HSL := hid hsl
  have HY := hid hyy
  have HZ := hid hzz
  have HIZ := hid hiz
  have HH := hid hh
  have HFO := hid hfo
  have HN := hid hn
  have HWV := hid hwv
  have HWL := hid hwl
  have HPOS := hid hpos
  have HZ16 := hid hz16
  have HY16 := hid hy16
  clear hyy hzz hh hk hko hob hfit hfo hn hwv hc0 hwl hpos hi hsm hiz hz16 hy16
  have HR := hid R
  clear R
  go_enter Tryd.func84, Tryd.ntmps84
  go_upto_region 1 with fail
  generalize ((w.alloc (.cells #[.int .i64 xk, .int .i64 (a : Int), .int .i64 (c : Int), .int .i64 (i : Int), .int .i64 xn, .int .i64 xr, .int .i64 xd, .int .i64 xs] 35)).alloc (.cells #[.slice none 0 0, .int .i64 0, .int .i64 0, .int .i64 0, .int .i64 0, .int .i64 0, .int .i64 0] 73)) = W2 at D1 ⊢
  have HD1 := hid D1
  have s1 := D1.R.cs HY16.out
  rw [← HY.out] at s1
  have HA1 := hid D1.A
  clear D1 hok hsl
  refine wp_region_held_drew (S := fun wz => Blk wz w.heap.size 35 #[.int .i64 xk, .int .i64 (a : Int), .int .i64 (c : Int), .int .i64 (i : Int), .int .i64 xn, .int .i64 xr, .int .i64 xd, .int .i64 xs]) (by kernel_rfl) ?_ (fun hHeld => ?_)
  · exact (HD1.out.A.kp (Kp.draw _ 1) (by simp) : Blk _ _ _ _)
  refine wpAnyH_take (i := 0) (v := _) rfl (by kernel_rfl) (by kernel_rfl) (by kernel_rfl) (fun _ _ _ h => h) (Or.inl ⟨by rfl, by (intro wz hSw; go_simp; try with_reducible rfl)⟩) (by assumption) ?_
  refine wpAnyH_take (i := 1) (v := _) rfl (by kernel_rfl) (by kernel_rfl) (by kernel_rfl) (fun _ _ _ h => h) (Or.inl ⟨by rfl, by (intro wz hSw; go_simp; try with_reducible rfl)⟩) (by assumption) ?_
  refine wpAnyH_take (i := 2) (v := _) rfl (by kernel_rfl) (by kernel_rfl) (by kernel_rfl) (fun _ _ _ h => h) (Or.inl ⟨by rfl, by (intro wz hSw; have hcj : wz.cell? ⟨w.heap.size, 1, none⟩ = some (.int .i64 (a : Int)) := hSw.cell 1; go_simp; try with_reducible rfl)⟩) (by assumption) ?_
  refine wpAnyH_take (i := 3) (v := _) rfl (by kernel_rfl) (by kernel_rfl) (by kernel_rfl) (fun _ _ _ h => h) (Or.inl ⟨by rfl, by (intro wz hSw; go_simp; try with_reducible rfl)⟩) (by assumption) ?_
  refine wpAnyH_take (i := 4) (v := _) rfl (by kernel_rfl) (by kernel_rfl) (by kernel_rfl) (fun _ _ _ h => h) (Or.inl ⟨by rfl, by (intro wz hSw; go_simp; try with_reducible rfl)⟩) (by assumption) ?_
  refine wpAnyH_take (i := 5) (v := _) rfl (by kernel_rfl) (by kernel_rfl) (by kernel_rfl) (fun _ _ _ h => h) (Or.inl ⟨by rfl, by (intro wz hSw; go_simp; try with_reducible rfl)⟩) (by assumption) ?_
  refine wpAnyH_take (i := 6) (v := _) rfl (by kernel_rfl) (by kernel_rfl) (by kernel_rfl) (fun _ _ _ h => h) (Or.inl ⟨by rfl, by (intro wz hSw; have hcj : wz.cell? ⟨w.heap.size, 2, none⟩ = some (.int .i64 (c : Int)) := hSw.cell 2; go_simp; try with_reducible rfl)⟩) (by assumption) ?_
  refine wpAnyH_take (i := 7) (v := _) rfl (by kernel_rfl) (by kernel_rfl) (by kernel_rfl) (fun _ _ _ h => h) (Or.inl ⟨by rfl, by (intro wz hSw; go_simp; try with_reducible rfl)⟩) (by assumption) ?_
  refine wpAnyH_take (i := 8) (v := _) rfl (by kernel_rfl) (by kernel_rfl) (by kernel_rfl) (fun _ _ _ h => h) (Or.inl ⟨by rfl, by (intro wz hSw; go_simp; try with_reducible rfl)⟩) (by assumption) ?_
  refine wpAnyH_take (i := 11) (v := _) rfl (by kernel_rfl) (by kernel_rfl) (by kernel_rfl) (fun _ _ _ h => h) (Or.inl ⟨by rfl, by (intro wz hSw; go_simp; try with_reducible rfl)⟩) (by assumption) ?_
  refine wpAnyH_take (i := 12) (v := _) rfl (by kernel_rfl) (by kernel_rfl) (by kernel_rfl) (fun _ _ _ h => h) (Or.inl ⟨by rfl, by (intro wz hSw; have hcj : wz.cell? ⟨w.heap.size, 3, none⟩ = some (.int .i64 (i : Int)) := hSw.cell 3; go_simp; try with_reducible rfl)⟩) (by assumption) ?_
  refine wpAnyH_take (i := 15) (v := _) rfl (by kernel_rfl) (by kernel_rfl) (by kernel_rfl) (fun _ _ _ h => h) (Or.inl ⟨by rfl, by (intro wz hSw; go_simp; try with_reducible rfl)⟩) (by assumption) ?_
  refine wpAnyH_ready (rs := [9]) (by kernel_rfl) (by simp) ?_
  refine AllReadyH.cons rfl (fun K hK => ?_) AllReadyH.nil
  go_simp
  refine hK.out _ _ ?_ (fun hHeld => ?_)
  · exact hHeld
  clear hK K
  refine wpAnyH_ready (rs := [10]) (by kernel_rfl) (by simp) ?_
  refine AllReadyH.cons rfl (fun K hK => ?_) AllReadyH.nil
  go_simp
  refine (m_refs (HD1.out.R.kp0 (Kp.draw _ 1)) HH.out).mono ?_
  rintro e w3 ⟨v, rfl, hv, hk3⟩
  rw [← HN.out, ← HFO.out] at hv
  obtain ⟨cv, rfl, hc1, hc2⟩ := hv.at_ HPOS.out HWV.out
  unfold maxLen at hc2
  have HD3 : Hid (DC w b b t ⟨xk, (a : Int), (c : Int), (i : Int), xn, xr, xd, xs⟩ ef0 w3) := (HD1.out.kp0 (Kp.draw _ 1)).kp0 hk3
  have w1 := HD3.out.R.dat2 HWV.out HWL.out
  rw [← HZ.out] at w1
  have s2 := HD3.out.R.cs HZ16.out
  have s2f := HD3.out.R.cs_f (m * 16 + a)
  generalize t.sl.getD (m * 16 + a) 0 = y2 at s2
  have HK3 := hid hk3
  clear hv hk3 s1
  try go_wp2_with fail
  refine hK.out _ _ ?_ (fun hHeld => ?_)
  · exact hHeld.kp HK3.out (by simp)
  clear hK K
  refine wpAnyH_take (i := 13) (v := _) rfl (by kernel_rfl) (by kernel_rfl) (by kernel_rfl) (fun _ _ _ h => h) (Or.inl ⟨by rfl, by (intro wz hSw; go_simp; try with_reducible rfl)⟩) (by assumption) ?_
  refine wpAnyH_ready (rs := [14]) (by kernel_rfl) (by simp) ?_
  refine AllReadyH.cons rfl (fun K hK => ?_) AllReadyH.nil
  go_simp
  refine hK.out _ _ ?_ (fun hHeld => ?_)
  · exact hHeld
  clear hK K
  refine wpAnyH_take (i := 16) (v := _) rfl (by kernel_rfl) (by kernel_rfl) (by kernel_rfl) (fun _ _ _ h => h) (Or.inl ⟨by rfl, by (intro wz hSw; go_simp; try with_reducible rfl)⟩) (by assumption) ?_
  refine wpAnyH_ready (rs := [17]) (by kernel_rfl) (by simp) ?_
  refine AllReadyH.cons rfl (fun K hK => ?_) AllReadyH.nil
  go_simp
  refine hK.out _ _ ?_ (fun hHeld => ?_)
  · exact (HD3.out.setS HZ16.out HIZ.out).A
  clear hK K
  refine wpAnyH_done (by kernel_rfl) ?_ _
  have D5 : DC w b b (t.setS (m * 16 + a) z) ⟨xk, (a : Int), (c : Int), (i : Int), xn, xr, xd, xs⟩ ef0 (w3.setCell ⟨b.sb, m * 16 + a, none⟩ (.int .i64 z)) := HD3.out.setS HZ16.out HIZ.out
  generalize w3.setCell ⟨b.sb, m * 16 + a, none⟩ (.int .i64 z) = w5 at D5 ⊢
  clear hHeld w1 s2 s2f
  have HD6 : Hid (DC w b b (t.setS (m * 16 + a) z) ⟨xk, (a : Int), (c : Int), (i : Int), xn, xr, xd, xs⟩ ef0 w5.drew) := D5.kp0 (Kp.draw _ 1)
  clear D5
  go_wp2_with fail
  refine wp_region_held_drew (S := fun wz => Blk wz w.heap.size 35 #[.int .i64 xk, .int .i64 (a : Int), .int .i64 (c : Int), .int .i64 (i : Int), .int .i64 xn, .int .i64 xr, .int .i64 xd, .int .i64 xs]) (by kernel_rfl) ?_ (fun hHeld => ?_)
  · exact HD6.out.A
  generalize w5.drew = wc at HD6 hHeld ⊢
  have s1 : wc.cell? ⟨b.sb, m * 16 + a, none⟩ = some (.int .i64 z) := by
    rw [HD6.out.R.cs HZ16.out]
    show some (Value.int .i64 ((t.sl.set (m * 16 + a) z).getD (m * 16 + a) 0)) = _
    rw [getD_set, if_pos ⟨rfl, by rw [HSL.out]; exact HZ16.out⟩]
  have hcut := HD6.out
  obtain ⟨hth, hch, hrg⟩ := DC.fin (ef' := #[.slice none 0 0, .int .i64 0, .int .i64 0, .int .i64 0, .int .i64 0, .int .i64 0, .int .i64 z]) hcut rfl rfl
  have HTH := hid hth
  have HCH := hid hch
  have HRG := hid hrg
  clear hth hch hrg
  clear hcut
  refine wpAnyH_take (i := 0) (v := _) rfl (by kernel_rfl) (by kernel_rfl) (by kernel_rfl) (fun _ _ _ h => h) (Or.inl ⟨by rfl, by (intro wz hSw; go_simp; try with_reducible rfl)⟩) (by assumption) ?_
  refine wpAnyH_take (i := 1) (v := _) rfl (by kernel_rfl) (by kernel_rfl) (by kernel_rfl) (fun _ _ _ h => h) (Or.inl ⟨by rfl, by (intro wz hSw; go_simp; try with_reducible rfl)⟩) (by assumption) ?_
  refine wpAnyH_take (i := 2) (v := _) rfl (by kernel_rfl) (by kernel_rfl) (by kernel_rfl) (fun _ _ _ h => h) (Or.inl ⟨by rfl, by (intro wz hSw; have hcj : wz.cell? ⟨w.heap.size, 1, none⟩ = some (.int .i64 (a : Int)) := hSw.cell 1; go_simp; try with_reducible rfl)⟩) (by assumption) ?_
  refine wpAnyH_take (i := 3) (v := _) rfl (by kernel_rfl) (by kernel_rfl) (by kernel_rfl) (fun _ _ _ h => h) (Or.inl ⟨by rfl, by (intro wz hSw; go_simp; try with_reducible rfl)⟩) (by assumption) ?_
  refine wpAnyH_take (i := 4) (v := _) rfl (by kernel_rfl) (by kernel_rfl) (by kernel_rfl) (fun _ _ _ h => h) (Or.inl ⟨by rfl, by (intro wz hSw; go_simp; try with_reducible rfl)⟩) (by assumption) ?_
  refine wpAnyH_ready (rs := [5]) (by kernel_rfl) (by simp) ?_
  refine AllReadyH.cons rfl (fun K hK => ?_) AllReadyH.nil
  go_simp
  refine hK.out _ _ ?_ (fun hHeld => ?_)
  · exact hHeld
  clear hK K
  refine wpAnyH_take (i := 6) (v := _) rfl (by kernel_rfl) (by kernel_rfl) (by kernel_rfl) (fun _ _ _ h => h) (Or.inl ⟨by rfl, by (intro wz hSw; go_simp; try with_reducible rfl)⟩) (by assumption) ?_
  refine wpAnyH_ready (rs := [7]) (by kernel_rfl) (by simp) ?_
  refine AllReadyH.cons rfl (fun K hK => ?_) AllReadyH.nil
  refine step_store_mid (by rfl) 73 (.tmp 6) (.tmp 30) (by rfl) (w.heap.size + 1) 0 #[.slice none 0 0, .int .i64 0, .int .i64 0, .int .i64 0, .int .i64 0, .int .i64 0, .int .i64 z] (by rfl) (by rfl) HTH.out effInfo effOne ?_
  refine hK.out _ _ ?_ (fun hHeld => ?_)
  · exact hHeld.kp (Kp.setCells _ _ _ _) (by simp)
  clear hK K
  refine wpAnyH_done (by kernel_rfl) ?_ _
  go_wp2
  generalize wc.setCells (w.heap.size + 1) 0 (#[.slice none 0 0, .int .i64 0, .int .i64 0, .int .i64 0, .int .i64 0, .int .i64 0, .int .i64 z] : Array Value).toList = W9 at HCH HRG ⊢
  refine bodyPost_ret (v := .agg #[.slice none 0 0, .int .i64 0, .int .i64 0, .int .i64 0, .int .i64 0, .int .i64 0, .int .i64 z]) ?_ rfl ⟨rfl, HCH.out⟩
  have hl := run_eff rfl HRG.out
  simp [results, Tryd.results84, asAddr, Act.put, hl]
end
end Go.Proofs.YtbiompmklijgoaaDoor
