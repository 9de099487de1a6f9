/-
  A queue of the law's own: a slice of numbers that is cut at its front and appended to. Conditions: those that stand in each theorem.
-/
import Derived.Test.YtkepgcpogblfaaaSs
import Derived.Laws.AppendOwn
namespace Go.Proofs.Ytkepgcpogblfaaa
set_option linter.unusedVariables false
set_option linter.unusedSimpArgs false
open Go.RowKit Go.Deep Go.Maps

/-- A slice of numbers in a block of its own, that may begin anywhere in it. -/
def OffI (W : World) (B : Nat) (v : Value) (zs : List Int) : Prop :=
  (v = .slice none 0 0 ∧ zs = []) ∨ ∃ g o c cur, v = .slice (some ⟨g, o, none⟩) zs.length c ∧ B ≤ g ∧ Blk W g 3 cur ∧ zs.length ≤ c ∧ c ≤ maxLen ∧ o + c ≤ cur.size ∧ ∀ j, j < zs.length → cur[o + j]? = some (.int .i64 (zs.getD j 0))
section
variable {w w' W W' : World} {B : Nat} {v : Value} {zs : List Int}
theorem OffI.is (h : OffI W B v zs) : IsI W v zs := by
  rcases h with ⟨rfl, rfl⟩ | ⟨g, o, c, cur, rfl, _, b, h1, h2, h3, h4⟩
  · exact ⟨none, 0, rfl, Nat.zero_le _, fun i hi => absurd hi (by simp)⟩
  · exact ⟨_, c, rfl, Nat.le_trans h1 h2, fun i hi => ⟨g, o, rfl, (b.cell _).trans (h4 i hi)⟩⟩
theorem OffI.kp {S : List Nat} (h : OffI W B v zs) (k : Kp S W W') (hS : ∀ g, v.ownBlock = some g → g ∉ S) : OffI W' B v zs := by
  rcases h with ⟨rfl, rfl⟩ | ⟨g, o, c, cur, rfl, hB, b, h1, h2, h3, h4⟩
  · exact .inl ⟨rfl, rfl⟩
  · exact .inr ⟨g, o, c, cur, rfl, hB, b.kp k (hS g rfl), h1, h2, h3, h4⟩
theorem OffI.of_own (own : W.ownsRow B 3 1 v zs.length (zcells zs)) : OffI W B v zs := by
  rcases own.2 with ⟨hv, h0⟩ | ⟨g, cap, cur, hv, hg, hb, hnc, hcm, hsz, htk⟩
  · exact .inl ⟨hv, List.length_eq_zero_iff.1 h0⟩
  · refine .inr ⟨g, 0, cap, cur, hv, hg, hb, hnc, hcm, by omega, fun j hj => ?_⟩
    have h := congrArg (fun l => l[j]?) htk
    simp only [Nat.mul_one] at h
    rw [List.getElem?_take_of_lt hj] at h
    rw [Nat.zero_add, ← Array.getElem?_toList, h]
    simp [zcells, hj]
set_option maxRecDepth 100000 in
theorem off_append (h : OffI W B v zs) (hB : B ≤ W.heap.size) (hl : zs.length ≤ 1000) (a : Addr) (c1 : Nat) {x : Int} (hx : W.cell? a = some (.int .i64 x)) :
    ∃ v' w', (Builtin.append_ #[34, 34] 34 #[v, .slice (some a) 1 c1]).run Try.prog W = .ok v' w' ∧ OffI w' B v' (zs ++ [x]) ∧ Kp v.ownBlock.toList W w' ∧ (v'.ownBlock = v.ownBlock ∨ v'.ownBlock = some W.heap.size) := by
  obtain ⟨i0, hi0, hz0, hz1, hz2⟩ := info_parts infoInt
  have hnews : ∀ j u, ([.int .i64 x] : List Value)[j]? = some u → W.cell? (a.add j) = some u := fun j u hu => by
    rcases j with _ | j
    · simp at hu; subst hu; simpa [Addr.add] using hx
    · simp at hu
  rcases h with ⟨rfl, rfl⟩ | ⟨g, o, c, cur, rfl, hg, b, h1, h2, h3, h4⟩
  · obtain ⟨v', w', hr, own, gr, _, hat⟩ := run_append_own_at (P := Try.prog) (w := W) B 34 34 3 i0 (.int .i64 0) 1 8 Try.underlying34 hi0 hz0 hz1 hz2 rfl (by decide) (.slice none 0 0) 0 [] ⟨rfl, .inl ⟨rfl, rfl⟩⟩ a 1 c1 [.int .i64 x] rfl hnews (one_cell x) (by unfold maxLen; decide) (by decide) hB
    exact ⟨v', w', hr, OffI.of_own own, Kp.of_grown gr, hat⟩
  · have hf := run_firstCells_some (P := Try.prog) W i0.size 1 a 1 c1 [.int .i64 x] (by rw [hz1]; rfl) hnews
    by_cases hroom : zs.length + 1 ≤ c
    · have hst := run_storeCells_at Try.prog g (o + zs.length) 3 [.int .i64 x] 0 cur W b (by simp; omega) (one_cell x)
      simp only [Nat.add_zero] at hst
      have hadd : (⟨g, o, none⟩ : Addr).add (zs.length * i0.size) = ⟨g, o + zs.length, none⟩ := by rw [hz1, Nat.mul_one, addr_off]
      have hlt : o + zs.length < cur.size := by omega
      have hsz : (cur.toList.take (o + zs.length) ++ [Value.int .i64 x] ++ cur.toList.drop (o + zs.length + [Value.int .i64 x].length)).toArray.size = cur.size := by
        simp
        omega
      refine ⟨.slice (some ⟨g, o, none⟩) (zs.length + 1) c, W.setRow g (cur.toList.take (o + zs.length) ++ [Value.int .i64 x] ++ cur.toList.drop (o + zs.length + [Value.int .i64 x].length)).toArray, ?_, .inr ⟨g, o, c, (cur.toList.take (o + zs.length) ++ [Value.int .i64 x] ++ cur.toList.drop (o + zs.length + [Value.int .i64 x].length)).toArray, by simp, hg, setRow_heap W g cur _ 3 _ b, by simpa using hroom, h2, by rw [hsz]; exact h3, fun j hj => ?_⟩, ⟨rfl, rfl, rfl, by simp, fun k _ hk => setRow_other W g k _ (fun e => hk (by simp [Value.ownBlock, e]))⟩, .inl rfl⟩
      · simp [Builtin.append_, run_underlying Try.underlying34, sizeOf, typeInfo, hi0, Builtin.lenOf, hroom, hf, hadd, hst]
      · rw [List.length_append, List.length_singleton] at hj
        rw [List.getElem?_toArray, List.append_assoc]
        have htl : (cur.toList.take (o + zs.length)).length = o + zs.length := by rw [List.length_take]; have e : cur.toList.length = cur.size := Array.length_toList; omega
        by_cases hjn : j < zs.length
        · rw [List.getElem?_append_left (by rw [htl]; omega), List.getElem?_take_of_lt (by omega), Array.getElem?_toList, h4 j hjn, List.getD_eq_getElem?_getD, List.getD_eq_getElem?_getD, List.getElem?_append_left hjn]
        · obtain rfl : j = zs.length := by omega
          rw [List.getElem?_append_right (by rw [htl]; exact Nat.le_refl _), htl, Nat.sub_self]
          simp
    · have holds : ∀ j u, (zcells zs)[j]? = some u → W.cell? ((⟨g, o, none⟩ : Addr).add j) = some u := fun j u hu => by
        have hj := (List.getElem?_eq_some_iff.1 hu).1
        rw [zcells_length] at hj
        rw [addr_off, b.cell, h4 j hj, ← hu]
        simp [zcells, hj]
      have hr := run_append_grow (P := Try.prog) W 34 34 3 i0 (.int .i64 0) Try.underlying34 hi0 hz0 ⟨g, o, none⟩ zs.length c (zcells zs) (by rw [hz1, zcells_length, Nat.mul_one]) holds a 1 c1 [.int .i64 x] (by rw [hz1]; rfl) hnews (by omega) (by omega) (growslice_fits (by omega) (by rw [hz2]; omega))
      have hge := grownCap_ge W (zs.length + 1) c 3
      have hcm := grownCap_le_maxLen W (zs.length + 1) c 3 (by unfold maxLen; omega)
      refine ⟨_, _, hr, .inr ⟨W.heap.size, 0, grownCap W (zs.length + 1) c 3, _, by simp, hB, heap_alloc_new W.drew _, by simpa using hge, hcm, ?_, fun j hj => ?_⟩, ⟨rfl, rfl, rfl, by simp, fun k hk _ => (Kp.new W.drew _).block k hk (by simp)⟩, .inr rfl⟩
      · simp [zcells_length, Builtin.zeroCells, Value.cells]
        omega
      · rw [List.length_append, List.length_singleton] at hj
        rw [Nat.zero_add, Array.getElem?_append_left (by simp [zcells_length]; omega)]
        by_cases hjn : j < zs.length
        · rw [Array.getElem?_append_left (by simpa [zcells_length] using hjn), List.getElem?_toArray, List.getD_eq_getElem?_getD, List.getElem?_append_left hjn]
          simp [zcells, hjn]
        · obtain rfl : j = zs.length := by omega
          rw [Array.getElem?_append_right (by simp [zcells_length])]
          simp [zcells_length]
end
end Go.Proofs.Ytkepgcpogblfaaa
