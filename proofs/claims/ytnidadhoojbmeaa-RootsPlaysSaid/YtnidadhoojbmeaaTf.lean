/-
  The contract of slices.Clone at roots' slots. Conditions: those that stand in each theorem.
-/
import Derived.Test.YtnidadhoojbmeaaRf
import Derived.Deep.AppendLies
namespace Go.Proofs.Ytnidadhoojbmeaa
set_option linter.unusedVariables false
set_option linter.unusedSimpArgs false
open Go.RowKit Go.Deep Go.Maps

theorem own_form16 {w : World} {B : Nat} {e : TypeId} {v : Value} {n : Nat} {xs : List Value} (h : w.ownsRow B e 16 v n xs) (hn : 0 < n) :
    ∃ g c sp, v = .slice (some ⟨g, 0, none⟩) n c ∧ B ≤ g ∧ Blk w g e (xs ++ sp).toArray ∧ n ≤ c ∧ c ≤ maxLen ∧ (xs ++ sp).length = c * 16 := by
  obtain ⟨hl, h2 | ⟨g, cap, cur, hv, hg, hb, hnc, hcm, hsz, htk⟩⟩ := h
  · omega
  · refine ⟨g, cap, cur.toList.drop (n * 16), hv, hg, ?_, hnc, hcm, ?_⟩
    · rw [← htk, List.take_append_drop]
      exact hb
    · rw [← htk, List.take_append_drop]
      simpa using hsz
theorem own_empty16 (w : World) (t : TypeId) : (w.alloc (.cells #[] t)).ownsRow w.heap.size t 16 (.slice (some ⟨w.heap.size, 0, none⟩) 0 0) 0 [] :=
  ⟨rfl, .inr ⟨w.heap.size, 0, #[], rfl, Nat.le_refl _, Blk.new w t #[], Nat.le_refl _, Nat.zero_le _, rfl, rfl⟩⟩
theorem zcells_cell {zs : List Int} : ∀ u ∈ zcells zs, u.oneCell' = true := by
  intro u hu
  unfold zcells at hu
  obtain ⟨x, _, rfl⟩ := List.mem_map.1 hu
  rfl
def ClonedS (w : World) (n : Nat) (zs : List Int) (e : Ending) (w' : World) : Prop :=
  ∃ g c sp, e = .returned (.slice (some ⟨g, 0, none⟩) n c) ∧ w.heap.size ≤ g ∧ Blk w' g 57 (zcells zs ++ sp).toArray ∧ n ≤ c ∧ c ≤ maxLen ∧ (zcells zs ++ sp).length = c * 16 ∧ Kp [] w w'
set_option maxRecDepth 100000 in
set_option maxHeartbeats 1500000 in
theorem clone_slots {w : World} {h c n : Nat} {zs : List Int} {sp : List Value} (b : Blk w h 57 (zcells zs ++ sp).toArray) (hz : zs.length = n * 16) (hn : 0 < n) (hl : n ≤ 4) :
    Calls Try.prog 24 #[.slice (some ⟨h, 0, none⟩) n c] w (ClonedS w n zs) := by
  obtain ⟨i0, hi0, hz0, hz1, hz2⟩ := info_parts infoArr
  have HC : Hid (∀ j u, (zcells zs)[j]? = some u → (w.alloc (.cells #[] 57)).cell? ((⟨h, 0, none⟩ : Addr).add j) = some u) := fun j u hu => by
    have b2 := b.kp (Kp.new w (.cells #[] 57)) (by simp)
    exact blk_read b2 j u hu
  have hnil : ∀ W : World, (binOp .eql 56 (.slice (some ⟨h, 0, none⟩) n c) (.slice none 0 0)).run Try.prog W = .ok (.bool false) W := fun W => Lib.run_eql_slice_nil W 56 57 (some ⟨h, 0, none⟩) n c 0 0 Try.underlying56
  have hbl2 : (zcells zs).length = n * 16 := by rw [zcells_length, hz]
  have HB2 := hid hbl2
  clear b hbl2 hz
  go_enter Try.func24, Try.ntmps24
  go_wp2_with (at_builtin; (refine wpList_append_lies _ rfl (.tmp 5) (.tmp 6) 56 rfl w.heap.size 57 i0 (.agg (Array.replicate 16 (.int .i64 0))) 16 128 Try.underlying56 hi0 hz0 hz1 hz2 rfl (by decide) (.slice (some ⟨w.heap.size, 0, none⟩) 0 0) 0 [] rfl (own_empty16 w 57) ⟨h, 0, none⟩ n c (zcells zs) rfl HB2.out HC.out zcells_cell hn (by unfold maxLen; omega) (by omega) (by simp) (w.heap.size + 1) (by simp) ?_); intro g cap w' hown hgr hat hlt)
  have HO := hid hown
  have HG := hid hgr
  clear hown hgr hnil
  go_wp2
  go_ret
  have hO := HO.out
  rw [Nat.zero_add, List.nil_append] at hO
  obtain ⟨g', c', sp', hv, hB, hb, h1, h2, h3⟩ := own_form16 hO hn
  injection hv with e1 e2 e3
  injection e1 with e1
  injection e1 with e1
  subst e1 e3
  refine ⟨g, cap, sp', by simp, hB, hb, h1, h2, h3, ?_⟩
  exact (Kp.new w _).trans (Kp.of_grown HG.out) (by simp) (by simp [Value.ownBlock])
end Go.Proofs.Ytnidadhoojbmeaa
