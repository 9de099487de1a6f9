/-
  The slots of a clone of the document's roots, as they grow. Conditions: those that stand in each theorem.
-/
import Derived.Test.YtnidadhoojbmeaaUd
namespace Go.Proofs.Ytnidadhoojbmeaa
set_option linter.unusedVariables false
set_option linter.unusedSimpArgs false
open Go.RowKit Go.Deep Go.Maps

def CL (g : Nat) (gv qv : Value) (rows : List (Nat × Nat)) : List Nat := g :: (gv.ownBlock.toList ++ qv.ownBlock.toList ++ rows.map fun r => r.1)
structure CRow (w : World) (b : TB) (t : RT) (g : Nat) (gv qv : Value) (rows : List (Nat × Nat)) (sv : Value) (W : World) : Prop where
  tr : TR W b t
  kp : Kp [] w W
  lo : ∀ x ∈ b.all, x < w.heap.size
  G : Blk W g 62 #[sv, gv, qv]
  own : W.ownsRow w.heap.size 34 1 sv rows.length (rows.map fun r => rowv r.1 r.2)
  R : ∀ i, i < rows.length → W.ownsRow w.heap.size 3 1 (rowv (rows.getD i (0, 0)).1 (rows.getD i (0, 0)).2) 16 (zcells (t.mrow i))
  gq : W.ownsRow w.heap.size 3 1 gv t.gl.length (zcells t.gl)
  qq : W.ownsRow w.heap.size 3 1 qv t.qu.length (zcells t.qu)
  nd : (CL g gv qv rows).Nodup
  n1 : ∀ x, sv.ownBlock = some x → x ∉ CL g gv qv rows
  lg : w.heap.size ≤ g
section
variable {w w' W V : World} {b : TB} {t : RT} {g : Nat} {gv qv sv : Value} {rows : List (Nat × Nat)}
theorem own_lo {w : World} {B n z : Nat} {e : TypeId} {v : Value} {xs : List Value} (own : w.ownsRow B e z v n xs) : ∀ g, v.ownBlock = some g → B ≤ g := by
  intro g hg
  rcases own.2 with ⟨rfl, _⟩ | ⟨g', cap, cur, rfl, h, _⟩
  · simp [Value.ownBlock] at hg
  · simp [Value.ownBlock] at hg
    omega
theorem getD_mem {l : List (Nat × Nat)} {i : Nat} (h : i < l.length) : l.getD i (0, 0) ∈ l := by
  rw [List.getD_eq_getElem?_getD, List.getElem?_eq_getElem h]
  exact List.getElem_mem h
theorem CRow.lt (h : CRow w b t g gv qv rows sv W) : ∀ x ∈ CL g gv qv rows, x < W.heap.size := by
  intro x hx
  simp only [CL, List.mem_cons, List.mem_append, Option.mem_toList, List.mem_map] at hx
  rcases hx with rfl | (hx | hx) | ⟨r, hr, rfl⟩
  · exact h.G.lt
  · exact own_lt h.gq _ hx
  · exact own_lt h.qq _ hx
  · obtain ⟨i, hi, rfl⟩ := List.mem_iff_getElem.1 hr
    have := own_lt (h.R i hi) _ rfl
    rwa [List.getD_eq_getElem?_getD, List.getElem?_eq_getElem hi] at this
theorem CRow.step (h : CRow w b t g gv qv rows sv W) {V2 V4 : World} {g5 c5 g9 c9 : Nat} {o : Obj} (k2 : Kp [] W V2) (own5 : V2.ownsRow w.heap.size 3 1 (rowv g5 c5) 16 (zcells (t.mrow rows.length))) (h5 : W.heap.size ≤ g5)
    (own4 : V4.ownsRow w.heap.size 34 1 (.slice (some ⟨g9, 0, none⟩) (rows.length + 1) c9) (rows.length + 1) ((rows.map fun r => rowv r.1 r.2) ++ [rowv g5 c5])) (k4 : Kp sv.ownBlock.toList (V2.alloc o) V4) (hat : sv.ownBlock = some g9 ∨ g9 = V2.heap.size + 1) :
    CRow w b t g gv qv (rows ++ [(g5, c5)]) (.slice (some ⟨g9, 0, none⟩) (rows.length + 1) c9) (V4.setCell ⟨g, 0, none⟩ (.slice (some ⟨g9, 0, none⟩) (rows.length + 1) c9)) := by
  have hs := h.kp.size
  have hs2 := k2.size
  have hlt := h.lt
  have hgl : g < W.heap.size := hlt g (by simp [CL])
  have h5lt : g5 < V2.heap.size := own_lt own5 _ rfl
  have svlo : ∀ x, sv.ownBlock = some x → w.heap.size ≤ x := own_lo h.own
  have svlt : ∀ x, sv.ownBlock = some x → x < W.heap.size := own_lt h.own
  have ka : Kp sv.ownBlock.toList W V4 := (k2.chain (Kp.new _ _)).trans k4 (by simp) (fun x hx => .inl hx)
  have kb : Kp [g] V4 (V4.setCell ⟨g, 0, none⟩ (.slice (some ⟨g9, 0, none⟩) (rows.length + 1) c9)) := Kp.cell V4 ⟨g, 0, none⟩ _
  have kc : Kp (g :: sv.ownBlock.toList) W (V4.setCell ⟨g, 0, none⟩ (.slice (some ⟨g9, 0, none⟩) (rows.length + 1) c9)) := ka.trans kb (fun x hx => .inl (by simp at hx ⊢; exact .inr hx)) (fun x hx => .inl (by simp at hx ⊢; exact .inl hx))
  have hnd := List.nodup_cons.1 h.nd
  have keep : ∀ x, x ∈ gv.ownBlock.toList ++ qv.ownBlock.toList ++ (rows.map fun r => r.1) → x ∉ g :: sv.ownBlock.toList := fun x hx hm => by
    simp only [List.mem_cons, Option.mem_toList] at hm
    rcases hm with rfl | hm
    · exact hnd.1 hx
    · exact h.n1 x hm (List.mem_cons_of_mem _ hx)
  have h9 : g9 ≠ g := by
    rcases hat with e | e
    · intro hh; subst hh; exact h.n1 _ e (by simp [CL])
    · omega
  have hL : CL g gv qv (rows ++ [(g5, c5)]) = CL g gv qv rows ++ [g5] := by simp [CL, List.append_assoc]
  refine ⟨h.tr.kp kc (fun x hx hm => ?_), (h.kp.trans kc (U := []) (by simp) (fun x hx => .inr (by
      simp only [List.mem_cons, Option.mem_toList] at hx
      rcases hx with rfl | hx
      · exact h.lg
      · exact svlo x hx))), h.lo, ?_, ?_, ?_, own_kps h.gq kc (fun x hx => keep x (by simp [hx])), own_kps h.qq kc (fun x hx => keep x (by simp [hx])), ?_, ?_, h.lg⟩
  · have h1 := h.lo x hx
    simp only [List.mem_cons, Option.mem_toList] at hm
    rcases hm with rfl | hm
    · have := h.lg; omega
    · have := svlo x hm; omega
  · exact (h.G.kp ka (fun hm => h.n1 g (by simpa using hm) (by simp [CL]))).set_ 0 _
  · rw [List.length_append, List.map_append]
    exact own_kps own4 kb (fun x hx hm => by simp [Value.ownBlock] at hx hm; omega)
  · intro i hi
    by_cases hil : i < rows.length
    · have e : (rows ++ [(g5, c5)]).getD i (0, 0) = rows.getD i (0, 0) := by
        rw [List.getD_eq_getElem?_getD, List.getElem?_append_left hil, ← List.getD_eq_getElem?_getD]
      rw [e]
      exact own_kps (h.R i hil) kc (fun x hx => keep x (by
        simp [rowv, Value.ownBlock] at hx
        subst hx
        exact List.mem_append_right _ (List.mem_map.2 ⟨_, getD_mem hil, rfl⟩)))
    · obtain rfl : i = rows.length := by simp at hi; omega
      have e : (rows ++ [(g5, c5)]).getD rows.length (0, 0) = (g5, c5) := by simp
      rw [e]
      have o3 := own_kp0 own5 (Kp.new V2 o)
      have o4 := own_kps o3 k4 (fun x hx hm => by
        simp [rowv, Value.ownBlock] at hx
        have := svlt x (by simpa using hm)
        omega)
      exact own_kps o4 kb (fun x hx hm => by simp [rowv, Value.ownBlock] at hx hm; omega)
  · rw [hL]
    exact List.nodup_append.2 ⟨h.nd, by simp, fun a ha c hc e => by
      obtain rfl := List.mem_singleton.1 hc
      have := hlt a ha
      omega⟩
  · intro x hx
    simp [Value.ownBlock] at hx
    subst hx
    rw [hL]
    simp only [List.mem_append, List.mem_singleton, not_or]
    rcases hat with e | e
    · have := svlt _ e
      exact ⟨h.n1 _ e, by omega⟩
    · exact ⟨fun hm => by have := hlt _ hm; omega, by omega⟩
theorem FC.start {v5 v6 : Value} {g : Nat} (h : FC w b t (some (.inr (v6, t.qu))) (some (.inr (v5, t.gl))) W) (hg : g = W.heap.size) : CRow w b t g v5 v6 [] (.slice none 0 0) (W.alloc (.cells #[.slice none 0 0, v5, v6] 62)) := by
  subst hg
  have hs := h.kp.size
  have q1 := h.q1 _ rfl
  have q2 := h.q2 _ rfl
  refine ⟨h.tr.kp0 (Kp.new _ _), h.kp.chain (Kp.new _ _), h.lo, Blk.new _ _ _, ⟨rfl, .inl ⟨rfl, rfl⟩⟩, (fun i hi => by simp at hi), own_kp0 q2 (Kp.new _ _), own_kp0 q1 (Kp.new _ _), ?_, (fun x hx => by simp [Value.ownBlock] at hx), hs⟩
  unfold CL
  rw [List.map_nil, List.append_nil]
  refine List.nodup_cons.2 ⟨fun hm => ?_, List.nodup_append.2 ⟨?_, ?_, fun x hx y hy e => ?_⟩⟩
  · simp only [List.mem_append, Option.mem_toList] at hm
    rcases hm with hm | hm
    · have := own_lt q2 _ hm; omega
    · have := own_lt q1 _ hm; omega
  · cases v5.ownBlock <;> simp
  · cases v6.ownBlock <;> simp
  · subst e
    exact h.ne _ _ x rfl rfl (show v6.ownBlock = some x by simpa using hy) (show v5.ownBlock = some x by simpa using hx)
/-- A clone whose slots are all there. -/
theorem CRow.done (h : CRow w b t g gv qv rows sv W) (hl : rows.length = t.n) : ∃ tb : TB, tb.g = g ∧ TR W tb t ∧ ∀ x ∈ tb.all, w.heap.size ≤ x := by
  have ok := h.tr.ok
  have hn1 := ok.n1
  have hgl := ok.gl
  obtain ⟨sb, c, sp, hsv, hle, hB, hc1, hc2, _⟩ := own_form h.own (by omega)
  obtain ⟨gb, gc, sp2, hgv, hle2, hB2, hc3, hc4, _⟩ := own_form h.gq (by omega)
  have hG := h.G
  rw [hsv, hgv, hgl, hl] at hG
  rw [hl] at hc1
  have hn : sb ∉ g :: ([gb] ++ qv.ownBlock.toList ++ rows.map fun r => r.1) := by
    have := h.n1 sb (by rw [hsv]; rfl)
    rw [hgv] at this
    exact this
  have hd : (g :: ([gb] ++ qv.ownBlock.toList ++ rows.map fun r => r.1)).Nodup := by
    have := h.nd
    rw [hgv] at this
    exact this
  rw [List.singleton_append, List.cons_append] at hn hd
  simp only [List.mem_cons, List.mem_append, not_or] at hn
  obtain ⟨a1, a2, a3, a4⟩ := hn
  obtain ⟨d1, hd2⟩ := List.nodup_cons.1 hd
  obtain ⟨d4, hd3⟩ := List.nodup_cons.1 hd2
  obtain ⟨d5, d6, d8⟩ := List.nodup_append.1 hd3
  simp only [List.mem_cons, List.mem_append, not_or] at d1 d4
  have tl : ∀ x, qv.ownBlock = some x → x ∈ qv.ownBlock.toList := fun x hx => by rw [hx]; simp
  refine ⟨⟨g, sb, c, rows.map fun r => r.1, fun i => (rows.getD i (0, 0)).2, gb, gc, qv⟩, rfl, ⟨ok, TB.nd_mk (fun e => a1 e.symm) d1.1 a2 ?_ d1.2.2 a4 d4.2 d6, by simp [hl], hG, ⟨sp, hc1, hc2, ?_⟩, fun i hi => ?_, ⟨sp2, hB2⟩, own_base h.qq (Nat.zero_le _)⟩, ?_⟩
  · intro x hx
    refine ⟨fun e => ?_, fun e => ?_, fun e => ?_, fun hm => ?_⟩
    · exact d1.2.1 ((show x = g from e) ▸ tl x hx)
    · exact a3 ((show x = sb from e) ▸ tl x hx)
    · exact d4.1 ((show x = gb from e) ▸ tl x hx)
    · exact d8 x (tl x hx) x hm rfl
  · have e : (TB.rvs ⟨g, sb, c, rows.map fun r => r.1, fun i => (rows.getD i (0, 0)).2, gb, gc, qv⟩ t.n) = rows.map fun r => rowv r.1 r.2 := by
      apply List.ext_getElem
      · simp [TB.rvs, hl]
      · intro i h1 h2
        have hi : i < rows.length := by simpa using h2
        simp [TB.rvs, hi]
    rw [e]
    exact hB
  · have hi2 : i < rows.length := by omega
    obtain ⟨g', c', sp', hv, _, hB', _⟩ := own_form (h.R i hi2) (by omega)
    refine ⟨sp', ?_⟩
    have e : (rows.map fun r => r.1).getD i 0 = g' := by
      simp only [rowv] at hv
      injection hv with hv
      injection hv with hv
      injection hv with hv
      rw [← hv]
      simp [hi2]
    show Blk W ((rows.map fun r => r.1).getD i 0) _ _
    rw [e]
    exact hB'
  · intro x hx
    simp only [TB.all, List.mem_cons, List.mem_append, Option.mem_toList] at hx
    rcases hx with rfl | rfl | rfl | hx | hx
    · exact h.lg
    · exact hle
    · exact hle2
    · exact own_lo h.qq x hx
    · obtain ⟨r, hr, rfl⟩ := List.mem_map.1 hx
      obtain ⟨i, hi, rfl⟩ := List.mem_iff_getElem.1 hr
      have := own_lo (h.R i hi) _ rfl
      rwa [List.getD_eq_getElem?_getD, List.getElem?_eq_getElem hi] at this
end
end Go.Proofs.Ytnidadhoojbmeaa
