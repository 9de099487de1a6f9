/-
  The contract of slices.Clone at a heap's blocks. Conditions: those that stand in each theorem.
-/
import Derived.Test.YtplgbpmldjngoaaHu
namespace Go.Proofs.Ytplgbpmldjngoaa
set_option linter.unusedVariables false
set_option linter.unusedSimpArgs false
open Go.RowKit Go.Deep Go.Maps

theorem own_form2 {w : World} {B : Nat} {e : TypeId} {v : Value} {n : Nat} {xs : List Value} (h : w.ownsRow B e 2 v n xs) (hn : 0 < n) :
    ∃ g c sp, v = .slice (some ⟨g, 0, none⟩) n c ∧ B ≤ g ∧ Blk w g e (xs ++ sp).toArray ∧ n ≤ c ∧ c ≤ maxLen ∧ (xs ++ sp).length = c * 2 := by
  obtain ⟨hl, h2 | ⟨g, cap, cur, hv, hg, hb, hnc, hcm, hsz, htk⟩⟩ := h
  · omega
  · refine ⟨g, cap, cur.toList.drop (n * 2), hv, hg, ?_, hnc, hcm, ?_⟩
    · rw [← htk, List.take_append_drop]
      exact hb
    · rw [← htk, List.take_append_drop]
      simpa using hsz
theorem own_empty2 (w : World) (t : TypeId) : (w.alloc (.cells #[] t)).ownsRow w.heap.size t 2 (.slice (some ⟨w.heap.size, 0, none⟩) 0 0) 0 [] :=
  ⟨rfl, .inr ⟨w.heap.size, 0, #[], rfl, Nat.le_refl _, Blk.new w t #[], Nat.le_refl _, Nat.zero_le _, rfl, rfl⟩⟩
theorem bcells_one {bl : List (Nat × Nat)} : ∀ u ∈ bcells bl, u.oneCell' = true := by
  intro u hu
  obtain ⟨x, _, hx⟩ := List.mem_flatMap.1 hu
  simp at hx
  rcases hx with rfl | rfl <;> rfl
def ClonedB (w : World) (bl : List (Nat × Nat)) (e : Ending) (w' : World) : Prop :=
  ∃ g c sp, e = .returned (.slice (some ⟨g, 0, none⟩) bl.length c) ∧ w.heap.size ≤ g ∧ Blk w' g 104 (bcells bl ++ sp).toArray ∧ bl.length ≤ c ∧ c ≤ maxLen ∧ (bcells bl ++ sp).length = c * 2 ∧ Kp [] w w'
theorem clone_blocks {w : World} {h c : Nat} {bl : List (Nat × Nat)} {sp : List Value} (b : Blk w h 104 (bcells bl ++ sp).toArray) (hn : 0 < bl.length) (hl : bl.length ≤ 64) :
    Calls Try.prog 86 #[.slice (some ⟨h, 0, none⟩) bl.length c] w (ClonedB w bl) := by
  obtain ⟨i0, hi0, hz0, hz1, hz2⟩ := info_parts infoBlock
  have HC : Hid (∀ j u, (bcells bl)[j]? = some u → (w.alloc (.cells #[] 104)).cell? ((⟨h, 0, none⟩ : Addr).add j) = some u) := fun j u hu => by
    have b2 := b.kp (Kp.new w (.cells #[] 104)) (by simp)
    exact blk_read b2 j u hu
  have hnil : ∀ W : World, (binOp .eql 97 (.slice (some ⟨h, 0, none⟩) bl.length c) (.slice none 0 0)).run Try.prog W = .ok (.bool false) W := fun W => Lib.run_eql_slice_nil W 97 104 (some ⟨h, 0, none⟩) bl.length c 0 0 Try.underlying97
  have hbl2 : (bcells bl).length = bl.length * 2 := bcells_length bl
  have HB2 := hid hbl2
  clear b hbl2
  go_enter Try.func86, Try.ntmps86
  go_wp2_with (at_builtin; (refine wpList_append_lies _ rfl (.tmp 5) (.tmp 6) 97 rfl w.heap.size 104 i0 (.agg #[.int .i64 0, .int .i64 0]) 2 16 Try.underlying97 hi0 hz0 hz1 hz2 rfl (by decide) (.slice (some ⟨w.heap.size, 0, none⟩) 0 0) 0 [] rfl (own_empty2 w 104) ⟨h, 0, none⟩ bl.length c (bcells bl) rfl HB2.out HC.out bcells_one hn (by unfold maxLen; omega) (by omega) (by simp) (w.heap.size + 1) (by simp) ?_); intro g cap w' hown hgr hat hlt)
  have HO := hid hown
  have HG := hid hgr
  clear hown hgr hnil
  go_wp2
  go_ret
  have hO := HO.out
  rw [Nat.zero_add, List.nil_append] at hO
  obtain ⟨g', c', sp', hv, hB, hb, h1, h2, h3⟩ := own_form2 hO hn
  injection hv with e1 e2 e3
  injection e1 with e1
  injection e1 with e1
  subst e1 e3
  refine ⟨g, cap, sp', by simp, hB, hb, h1, h2, h3, ?_⟩
  exact (Kp.new w _).trans (Kp.of_grown HG.out) (by simp) (by simp [Value.ownBlock])
end Go.Proofs.Ytplgbpmldjngoaa
