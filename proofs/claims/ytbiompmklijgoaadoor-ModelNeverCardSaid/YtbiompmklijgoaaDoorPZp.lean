/-
  The contracts of slices.Clone at a model's rows, and of package model's Clone. Conditions: those that stand in each theorem.
-/
import Derived.Test.YtbiompmklijgoaaDoorPZi
import Derived.Test.YtbiompmklijgoaaDoorPGC
import Derived.Deep.AppendLies
namespace Go.Proofs.YtbiompmklijgoaaDoor
set_option linter.unusedVariables false
set_option linter.unusedSimpArgs false
open Go.RowKit Go.Deep Go.Maps

theorem own_form16 {w : World} {B z : Nat} {e : TypeId} {v : Value} {n : Nat} {xs : List Value} (h : w.ownsRow B e z v n xs) (hn : 0 < n) :
    ∃ g c sp, v = .slice (some ⟨g, 0, none⟩) n c ∧ B ≤ g ∧ Blk w g e (xs ++ sp).toArray ∧ n ≤ c ∧ c ≤ maxLen ∧ (xs ++ sp).length = c * z := by
  obtain ⟨hl, h2 | ⟨g, cap, cur, hv, hg, hb, hnc, hcm, hsz, htk⟩⟩ := h
  · omega
  · refine ⟨g, cap, cur.toList.drop (n * z), hv, hg, ?_, hnc, hcm, ?_⟩
    · rw [← htk, List.take_append_drop]
      exact hb
    · rw [← htk, List.take_append_drop]
      simpa using hsz
theorem own_emptyz (w : World) (t : TypeId) (z : Nat) : (w.alloc (.cells #[] t)).ownsRow w.heap.size t z (.slice (some ⟨w.heap.size, 0, none⟩) 0 0) 0 [] :=
  ⟨by simp, .inr ⟨w.heap.size, 0, #[], rfl, Nat.le_refl _, Blk.new w t #[], Nat.le_refl _, Nat.zero_le _, by simp, by simp⟩⟩
theorem zcells_cell {zs : List Int} : ∀ u ∈ zcells zs, u.oneCell' = true := by
  intro u hu
  unfold zcells at hu
  obtain ⟨x, _, rfl⟩ := List.mem_map.1 hu
  rfl
theorem obcells_cell {l : List OB} : ∀ u ∈ obcells l, u.oneCell' = true := by
  induction l with
  | nil => intro u hu; cases hu
  | cons o l ih =>
    intro u hu
    simp only [obcells, OB.cells, List.cons_append, List.nil_append, List.mem_cons] at hu
    rcases hu with rfl | rfl | rfl | rfl | hu
    · rfl
    · rfl
    · rfl
    · rfl
    · exact ih u hu
theorem blk_readz {w : World} {h : Nat} {T : TypeId} {xs sp : List Value} (b : Blk w h T (xs ++ sp).toArray) (j : Nat) (u : Value) (hu : xs[j]? = some u) : w.cell? ((⟨h, 0, none⟩ : Addr).add j) = some u := by
  have hj := (List.getElem?_eq_some_iff.1 hu).1
  have hadd : (⟨h, 0, none⟩ : Addr).add j = ⟨h, j, none⟩ := by unfold Addr.add; split <;> simp_all
  rw [hadd, b.cell j, List.getElem?_toArray, List.getElem?_append_left hj]
  exact hu
def ClonedM (w : World) (n : Nat) (zs : List Int) (e : Ending) (w' : World) : Prop :=
  ∃ g c sp, e = .returned (.slice (some ⟨g, 0, none⟩) n c) ∧ w.heap.size ≤ g ∧ Blk w' g 80 (zcells zs ++ sp).toArray ∧ n ≤ c ∧ c ≤ maxLen ∧ (zcells zs ++ sp).length = c * 16 ∧ Kp [] w w'
set_option maxRecDepth 100000 in
set_option maxHeartbeats 1500000 in
theorem clone_msl {w : World} {h c n : Nat} {zs : List Int} {sp : List Value} (b : Blk w h 80 (zcells zs ++ sp).toArray) (hz : zs.length = n * 16) (hn : 0 < n) (hl : n ≤ 4) :
    Calls Tryd.prog 42 #[.slice (some ⟨h, 0, none⟩) n c] w (ClonedM w n zs) := by
  obtain ⟨i0, hi0, hz0, hz1, hz2⟩ := info_parts infoSlots
  have HC : Hid (∀ j u, (zcells zs)[j]? = some u → (w.alloc (.cells #[] 80)).cell? ((⟨h, 0, none⟩ : Addr).add j) = some u) := fun j u hu => by
    have b2 := b.kp (Kp.new w (.cells #[] 80)) (by simp)
    exact blk_readz b2 j u hu
  have hnil : ∀ W : World, (binOp .eql 43 (.slice (some ⟨h, 0, none⟩) n c) (.slice none 0 0)).run Tryd.prog W = .ok (.bool false) W := fun W => Lib.run_eql_slice_nil W 43 80 (some ⟨h, 0, none⟩) n c 0 0 Tryd.underlying43
  have hbl2 : (zcells zs).length = n * 16 := by rw [zcells_length, hz]
  have HB2 := hid hbl2
  clear b hbl2 hz
  go_enter Tryd.func42, Tryd.ntmps42
  go_wp2_with (at_builtin; (refine wpList_append_lies _ rfl (.tmp 5) (.tmp 6) 43 rfl w.heap.size 80 i0 (.agg (Array.replicate 16 (.int .i64 0))) 16 128 Tryd.underlying43 hi0 hz0 hz1 hz2 rfl (by decide) (.slice (some ⟨w.heap.size, 0, none⟩) 0 0) 0 [] rfl (own_emptyz w 80 16) ⟨h, 0, none⟩ n c (zcells zs) rfl HB2.out HC.out zcells_cell hn (by unfold maxLen; omega) (by omega) (by simp) (w.heap.size + 1) (by simp) ?_); intro g cap w' hown hgr hat hlt)
  have HO := hid hown
  have HG := hid hgr
  clear hown hgr hnil
  go_wp2
  go_ret
  have hO := HO.out
  rw [Nat.zero_add, List.nil_append] at hO
  obtain ⟨g', c', sp', hv, hB, hb, h1, h2, h3⟩ := own_form16 hO hn
  injection hv with e1 e2 e3
  injection e1 with e1
  injection e1 with e1
  subst e1 e3
  refine ⟨g, cap, sp', by simp, hB, hb, h1, h2, h3, ?_⟩
  exact (Kp.new w _).trans (Kp.of_grown HG.out) (by simp) (by simp [Value.ownBlock])
theorem own_slicez {w : World} {B n z : Nat} {e : TypeId} {v : Value} {xs : List Value} (h : w.ownsRow B e z v n xs) : ∃ A c, v = .slice A n c := by
  rcases h.2 with ⟨hv, h0⟩ | ⟨g, cap, cur, hv, _⟩
  · exact ⟨none, 0, by rw [hv, h0]⟩
  · exact ⟨_, _, hv⟩
def ClonedR (T : TypeId) (z : Nat) (w : World) (n : Nat) (xs : List Value) (e : Ending) (w' : World) : Prop :=
  ∃ A c, e = .returned (.slice A n c) ∧ w'.ownsRow w.heap.size T z (.slice A n c) n xs ∧ Kp [] w w'
theorem clone_mint {w : World} {v : Value} {zs : List Int} (own : w.ownsRow 0 3 1 v zs.length (zcells zs)) (hl : zs.length ≤ 1000000000) :
    Calls Tryd.prog 43 #[v] w (ClonedR 3 1 w zs.length (zcells zs)) := by
  rcases id own.2 with ⟨hv, h0⟩ | ⟨g, cap, cur, hv, hg, hb, hc1, hc2, hc3, hc4⟩
  · rw [hv]
    refine (AnyG.slices_Clone_int_nil Tryd.cloneL 0 0 _).mono ?_
    rintro e w' ⟨rfl, rfl⟩
    rw [List.length_eq_zero_iff.1 h0]
    exact ⟨none, 0, rfl, ⟨rfl, .inl ⟨rfl, rfl⟩⟩, Kp.refl _ _⟩
  · subst hv
    refine (AnyG.slices_Clone_int Tryd.cloneL g 0 zs.length cap zs w (Nat.le_refl _) (by omega) (fun j hj => ?_)).mono ?_
    · rw [Nat.zero_add, own.cellAt j (by omega)]
      have := zcells_get (ws := zs) (sp := []) hj
      simpa using this
    · rintro e w' ⟨v', rfl, own', _, bel⟩
      rw [List.take_length] at own'
      obtain ⟨A, c, rfl⟩ := own_slicez own'
      exact ⟨A, c, rfl, own', Kp.of_below bel⟩
set_option maxRecDepth 100000 in
set_option maxHeartbeats 1500000 in
theorem clone_mob {w : World} {v : Value} {l : List OB} (own : w.ownsRow 0 84 4 v l.length (obcells l)) (hl : l.length ≤ 100000) :
    Calls Tryd.prog 44 #[v] w (ClonedR 84 4 w l.length (obcells l)) := by
  obtain ⟨i0, hi0, hz0, hz1, hz2⟩ := info_parts infoObj
  rcases id own.2 with ⟨hv, h0⟩ | ⟨g, cap, cur, hv, hg, hb, hc1, hc2, hc3, hc4⟩
  · subst hv
    have hl0 := List.length_eq_zero_iff.1 h0
    have HL := hid hl0
    have hnil : ∀ W : World, (binOp .eql 46 (.slice none 0 0) (.slice none 0 0)).run Tryd.prog W = .ok (.bool true) W := fun W => Lib.run_eql_slice_nil W 46 84 none 0 0 0 0 Tryd.underlying46
    clear own h0 hl0 hl hi0 hz0 hz1 hz2
    go_enter Tryd.func44, Tryd.ntmps44
    go_wp2
    go_ret
    rw [HL.out]
    exact ⟨none, 0, rfl, ⟨rfl, .inl ⟨rfl, rfl⟩⟩, Kp.refl _ _⟩
  · subst hv
    have HC : Hid (∀ j u, (obcells l)[j]? = some u → (w.alloc (.cells #[] 84)).cell? ((⟨g, 0, none⟩ : Addr).add j) = some u) := fun j u hu => by
      have b1 : Blk w g 84 (obcells l ++ cur.toList.drop (l.length * 4)).toArray := by
        rw [← hc4, List.take_append_drop]
        exact hb
      exact blk_readz (b1.kp (Kp.new w (.cells #[] 84)) (by simp)) j u hu
    have hnil : ∀ W : World, (binOp .eql 46 (.slice (some ⟨g, 0, none⟩) l.length cap) (.slice none 0 0)).run Tryd.prog W = .ok (.bool false) W := fun W => Lib.run_eql_slice_nil W 46 84 (some ⟨g, 0, none⟩) l.length cap 0 0 Tryd.underlying46
    have HB2 := hid (obcells_length l)
    clear own hb hc1 hc2 hc3 hc4 hg
    go_enter Tryd.func44, Tryd.ntmps44
    go_wp2_with (at_builtin; (refine wpList_append_own_at _ rfl (.tmp 5) (.tmp 6) 46 rfl w.heap.size 84 i0 (.agg #[.int .i64 0, .int .i64 0, .int .i64 0, .int .i64 0]) 4 32 Tryd.underlying46 hi0 hz0 hz1 hz2 rfl (by decide) (.slice (some ⟨w.heap.size, 0, none⟩) 0 0) 0 [] rfl (own_emptyz w 84 4) ⟨g, 0, none⟩ l.length cap (obcells l) rfl HB2.out HC.out obcells_cell (by unfold maxLen; omega) (by omega) (by simp) ?_); intro v' w' hown hgr hat hlt)
    have HO := hid hown
    have HG := hid hgr
    clear hown hgr hnil hat hlt
    go_wp2
    go_ret
    have hO := HO.out
    rw [Nat.zero_add, List.nil_append] at hO
    obtain ⟨A, c, rfl⟩ := own_slicez hO
    exact ⟨A, c, rfl, hO, (Kp.new w _).trans (Kp.of_grown HG.out) (by simp) (by simp [Value.ownBlock])⟩
end Go.Proofs.YtbiompmklijgoaaDoor
