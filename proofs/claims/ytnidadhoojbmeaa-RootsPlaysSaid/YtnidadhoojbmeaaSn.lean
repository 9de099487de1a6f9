/-
  The contract of the document's roots' New. Conditions: those that stand in each theorem.
-/
import Derived.Test.YtnidadhoojbmeaaSe
import Derived.Test.YtnidadhoojbmeaaRf
import Derived.Deep.RegionHeld3
import Derived.Deep.AppendLies
namespace Go.Proofs.Ytnidadhoojbmeaa
set_option linter.unusedVariables false
set_option linter.unusedSimpArgs false
open Go.RowKit Go.Deep Go.Maps

theorem zeroTRoots (w : World) : (zeroValue 62).run Try.prog w = .ok (.agg #[.slice none 0 0, .slice none 0 0, .slice none 0 0]) w := by kernel_rfl
def zeros (n : Nat) : List Int := List.replicate n 0
theorem madeN (n : Nat) : madeCells (Value.int .i64 0).cells (n * 1) = (zcells (zeros n) ++ []).toArray := by
  apply Array.toList_inj.1
  apply List.ext_getElem
  · simp [madeCells, zcells, zeros, Value.cells]
  · intro i h3 h4
    have hi : i % 1 = 0 := Nat.mod_one i
    simp [madeCells, zcells, zeros, Value.cells, hi]
theorem made16 : madeCells (Value.int .i64 0).cells (16 * 1) = (zcells (zeros 16) ++ []).toArray := madeN 16
theorem new_mrow {k i : Nat} (h : i < k) : (RT.new k).mrow i = zeros 16 := by
  unfold RT.mrow RT.new zeros
  rw [List.drop_replicate, List.take_replicate, Nat.min_eq_left (by omega)]
/-- The slots of new roots, as they grow. -/
structure NRow (w : World) (Z : Array Value) (g gb : Nat) (rows : List Nat) (sv : Value) (W : World) : Prop where
  G : Blk W g 62 #[sv, .slice (some ⟨gb, 0, none⟩) 16 16, .slice none 0 0]
  GL : Blk W gb 3 Z
  own : W.ownsRow w.heap.size 34 1 sv rows.length (rows.map fun r => rowv r 16)
  R : ∀ r ∈ rows, Blk W r 3 Z
  nd : rows.Nodup
  n0 : g ≠ gb ∧ g ∉ rows ∧ gb ∉ rows
  n1 : ∀ x, sv.ownBlock = some x → x ≠ g ∧ x ≠ gb ∧ x ∉ rows
  lo : w.heap.size ≤ g ∧ w.heap.size ≤ gb ∧ ∀ r ∈ rows, w.heap.size ≤ r
  kp : Kp [] w W
section
variable {w w' W : World}
theorem t_new_bad (n : Int) (h : ¬ (1 ≤ n ∧ n ≤ 4)) :
    Calls Try.prog 8 #[.int .i64 n] w fun e w' => e = .returned (.tuple #[.pointer none, .int .i64 1]) ∧ ∃ m, w' = w.drewN m := by
  by_cases h1 : n < 1
  · clear h
    go_enter Try.func8, Try.ntmps8
    go_wp2
    go_ret2
    exact ⟨rfl, 0, rfl⟩
  · have h2 : 4 < n := by omega
    clear h
    go_enter Try.func8, Try.ntmps8
    go_wp2
    go_ret2
    exact ⟨rfl, 0, rfl⟩
set_option maxRecDepth 100000 in
set_option maxHeartbeats 4000000 in
theorem t_new_ok (n : Nat) (h1 : 1 ≤ n) (h2 : n ≤ 4) :
    Calls Try.prog 8 #[.int .i64 (n : Int)] w fun e w' => ∃ b : TB, e = .returned (.tuple #[.pointer (some ⟨b.g, 0, none⟩), .int .i64 0]) ∧ TR w' b (RT.new n) ∧ Kp [] w w' ∧ ∀ x ∈ b.all, w.heap.size ≤ x := by
  obtain ⟨i0, hi0, hz0, hz1, hz2⟩ := info_parts infoInt
  obtain ⟨j0, hj0, hy0, hy1, hy2⟩ := info_parts infoRow
  have hmk : ∀ W : World, (Instr.makeSlice 34 (.int .i64 16) (.int .i64 16)).run Try.prog W = .ok (.slice (some ⟨W.heap.size, 0, none⟩) 16 16) (W.alloc (.cells (zcells (zeros 16) ++ []).toArray 3)) := fun W => by
    have := run_make_rowN (P := Try.prog) 34 3 i0 _ Try.underlying34 hi0 hz0 .i64 .i64 16 16 (Nat.le_refl _) (by rw [hz2]; omega) (by omega) W
    rw [hz1, made16] at this
    exact this
  have hmk2 := hmk
  clear hmk
  obtain ⟨Z, hZ⟩ : ∃ Z, Z = (zcells (zeros 16) ++ []).toArray := ⟨_, rfl⟩
  rw [← hZ] at hmk2
  have HZZ := hid hZ
  clear hZ
  have hz := zeroTRoots
  clear hi0 hz0 hz1 hz2
  go_enter Try.func8, Try.ntmps8
  go_wp2
  go_loopw [5] (fun c wr => ∃ (k : Nat) (rows : List Nat) (sv : Value), k ≤ n ∧ c = .int .i64 (k : Int) ∧ rows.length = k ∧ NRow w Z (w.heap.size + 1) w.heap.size rows sv wr) (fun c _ => n - (intOf c).toNat)
  case atStart =>
    have hb := Blk.new w 3 Z
    have hg := Blk.new (w.alloc (.cells Z 3)) 62 #[.slice none 0 0, .slice (some ⟨w.heap.size, 0, none⟩) 16 16, .slice none 0 0]
    rw [World.size_alloc] at hg
    exact ⟨0, [], .slice none 0 0, by omega, rfl, rfl, ⟨hg, hb.kp (Kp.new _ _) (by simp), ⟨rfl, .inl ⟨rfl, rfl⟩⟩, by simp, List.nodup_nil, ⟨by omega, by simp, by simp⟩, by simp [Value.ownBlock], ⟨by omega, by omega, by simp⟩, (Kp.new _ _).chain (Kp.new _ _)⟩⟩
  case round =>
    obtain ⟨k, rows, sv, hk, rfl, hlen, N⟩ := hrel
    have HN := hid N
    have HLEN := hid hlen
    by_cases hlt : k < n
    · have c0 := N.G.cell 0
      have f0 := N.G.frozen 0
      clear N hlen
      go_wp2
      have d0 : wr.drew.cell? ⟨w.heap.size + 1, 0, none⟩ = some sv := c0
      have HOW : Hid (∀ W', Kp [] wr W' → W'.ownsRow w.heap.size 34 1 sv rows.length (rows.map fun r => rowv r 16)) := fun W' kk => own_kp0 HN.out.own kk
      have HNW := hid (one_newV (wr.alloc (.cells Z 3)) (rowv wr.heap.size 16) 34)
      rw [World.size_alloc] at HNW
      have NONE : ∀ u ∈ ([rowv wr.heap.size 16] : List Value), u.oneCell' = true := by
        intro u hu; simp at hu; subst hu; rfl
      have HSZ := hid HN.out.kp.size
      have HGK : Hid (∀ w9, Kp sv.ownBlock.toList wr w9 → w9.cell? ⟨w.heap.size + 1, 0, none⟩ = some sv ∧ w9.frozen? ⟨w.heap.size + 1, 0, none⟩ = false) := fun w9 k => by
        have G2 := HN.out.G.kp k (fun hm => (HN.out.n1 _ (by simpa using hm)).1 rfl)
        exact ⟨G2.cell 0, G2.frozen 0⟩
      have HFIN : Hid (∀ g9 c9 w9, w9.ownsRow w.heap.size 34 1 (.slice (some ⟨g9, 0, none⟩) (rows.length + 1) c9) (rows.length + 1) ((rows.map fun r => rowv r 16) ++ [rowv wr.heap.size 16]) → ((wr.alloc (.cells Z 3)).alloc (.cells #[rowv wr.heap.size 16] 34)).drew.grownBy w9 sv.ownBlock → (sv.ownBlock = some g9 ∨ g9 = wr.heap.size + 2) → NRow w Z (w.heap.size + 1) w.heap.size (rows ++ [wr.heap.size]) (.slice (some ⟨g9, 0, none⟩) (rows.length + 1) c9) (w9.setCell ⟨w.heap.size + 1, 0, none⟩ (.slice (some ⟨g9, 0, none⟩) (rows.length + 1) c9))) := by
        intro g9 c9 w9 hown hgr hat
        have N := HN.out
        have hb0 := Blk.new wr 3 Z
        have k0 : Kp [] wr ((wr.alloc (.cells Z 3)).alloc (.cells #[rowv wr.heap.size 16] 34)).drew := ((Kp.new wr _).chain (Kp.new _ _)).drewN 1
        have k1 : Kp sv.ownBlock.toList wr w9 := k0.trans (Kp.of_grown hgr) (by simp) (fun x hx => .inl hx)
        have hbn : Blk w9 wr.heap.size 3 Z := by
          have h3 : Blk ((wr.alloc (.cells Z 3)).alloc (.cells #[rowv wr.heap.size 16] 34)).drew wr.heap.size 3 Z := (hb0.kp (Kp.new _ _) (by simp)).kp (Kp.draw _ 1) (by simp)
          exact h3.kp (Kp.of_grown hgr) (fun hm => by
            have := own_lt N.own _ (by simpa using hm)
            omega)
        have k2 : Kp [w.heap.size + 1] w9 (w9.setCell ⟨w.heap.size + 1, 0, none⟩ (.slice (some ⟨g9, 0, none⟩) (rows.length + 1) c9)) := Kp.cell w9 ⟨w.heap.size + 1, 0, none⟩ _
        have hsz := N.kp.size
        have hlt : ∀ r ∈ rows, r < wr.heap.size := fun r hr => (N.R r hr).lt
        have hg := N.G.lt
        have hgb := N.GL.lt
        have hnot : ∀ x, (∀ y, sv.ownBlock = some y → x ≠ y) → x ∉ sv.ownBlock.toList := fun x h hm => h x (by simpa using hm) rfl
        have hg9 : g9 ≠ w.heap.size + 1 ∧ g9 ≠ w.heap.size ∧ g9 ∉ rows ++ [wr.heap.size] := by
          rcases hat with h | h
          · obtain ⟨a1, a2, a3⟩ := N.n1 _ h
            have := own_lt N.own _ h
            exact ⟨a1, a2, by simp only [List.mem_append, List.mem_singleton, not_or]; exact ⟨a3, by omega⟩⟩
          · refine ⟨by omega, by omega, ?_⟩
            simp only [List.mem_append, List.mem_singleton, not_or]
            exact ⟨fun hm => by have := hlt _ hm; omega, by omega⟩
        refine ⟨?_, ?_, ?_, ?_, ?_, ?_, ?_, ?_, ?_⟩
        · exact (N.G.kp k1 (hnot _ fun y hy e => (N.n1 y hy).1 e.symm)).set_ 0 _
        · exact (N.GL.kp k1 (hnot _ fun y hy e => (N.n1 y hy).2.1 e.symm)).kp k2 (by simp)
        · rw [List.length_append, List.map_append]
          exact own_kps hown k2 (fun g hgg => by simp [Value.ownBlock] at hgg; subst hgg; simpa using hg9.1)
        · intro r hr
          rcases List.mem_append.1 hr with h | h
          · exact ((N.R r h).kp k1 (hnot _ fun y hy e => (N.n1 y hy).2.2 (e ▸ h))).kp k2 (by simp; intro e; exact N.n0.2.1 (e ▸ h))
          · obtain rfl := List.mem_singleton.1 h
            exact hbn.kp k2 (by simp; omega)
        · exact List.nodup_append.2 ⟨N.nd, by simp, fun a ha b hb e => by
            obtain rfl := List.mem_singleton.1 hb
            have := hlt a ha
            omega⟩
        · refine ⟨N.n0.1, ?_, ?_⟩
          · simp only [List.mem_append, List.mem_singleton, not_or]; exact ⟨N.n0.2.1, by omega⟩
          · simp only [List.mem_append, List.mem_singleton, not_or]; exact ⟨N.n0.2.2, by omega⟩
        · intro x hx
          simp [Value.ownBlock] at hx
          subst hx
          exact hg9
        · refine ⟨by omega, by omega, fun r hr => ?_⟩
          rcases List.mem_append.1 hr with h | h
          · exact N.lo.2.2 r h
          · obtain rfl := List.mem_singleton.1 h
            omega
        · exact (N.kp.trans k1 (U := []) (by simp) (fun x hx => .inr (by
            rcases N.own.2 with ⟨hv, _⟩ | ⟨g', c', cur', hv, hle, _⟩
            · rw [hv] at hx; simp [Value.ownBlock] at hx
            · rw [hv] at hx; simp [Value.ownBlock] at hx; omega))).trans k2 (by simp) (fun x hx => .inr (by simp at hx; omega))
      have hl4 : rows.length ≤ 4 := by have := HLEN.out; omega
      have e0 : (wr.alloc (.cells Z 3)).cell? ⟨w.heap.size + 1, 0, none⟩ = some sv := cell_kp (Kp.new _ _) c0
      have e1 : ((wr.alloc (.cells Z 3)).alloc (.cells #[.slice (some ⟨wr.heap.size, 0, none⟩) 16 16] 34)).cell? ⟨w.heap.size + 1, 0, none⟩ = some sv := cell_kp (Kp.new _ _) e0
      go_region_law
        ((refine step_append_lies _ (by rfl) (.tmp 24) (.tmp 26) 60 (by rfl) w.heap.size 34 j0 (.slice none 0 0) 1 24 Try.underlying60 hj0 hy0 hy1 hy2 rfl (by omega) sv rows.length (rows.map fun r => rowv r 16) (by rfl) (HOW.out _ (((Kp.new wr _).chain (Kp.new _ _)).drewN 1)) ⟨wr.heap.size + 1, 0, none⟩ 1 1 [rowv wr.heap.size 16] (by rfl) rfl HNW.out NONE (by omega) (by unfold maxLen; omega) (by omega) (by have := HSZ.out; simp [World.drew]; omega) (wr.heap.size + 2) (by simp [World.drew]) ?_; intro g9 c9 w9 hown hgr hat hlt9; have hkk : Kp sv.ownBlock.toList wr w9 := (((Kp.new wr _).chain (Kp.new _ _)).drewN 1).trans (Kp.of_grown hgr) (by simp) (fun x hx => .inl hx); obtain ⟨z0, z1⟩ := HGK.out w9 hkk; have HF := hid (HFIN.out g9 c9 w9 hown hgr hat); clear hown hgr hat hlt9 hkk))
      all_goals (
        go_wp2
        go_roundw
        case rel => exact ⟨k + 1, rows ++ [wr.heap.size], _, by omega, by go_num, by simp [HLEN.out], by assumption⟩
        case measure => simp [intOf]; omega)
    · obtain rfl : k = n := by omega
      clear N hlen
      go_wp2
      go_ret2
      have N := HN.out
      obtain ⟨sb, c, sp, hsv, hle, hB, hc1, hc2, _⟩ := own_form N.own (by rw [HLEN.out]; omega)
      rw [HLEN.out] at hsv hc1
      have hG := N.G
      rw [hsv] at hG
      obtain ⟨x1, x2, x3⟩ := N.n1 sb (by rw [hsv]; rfl)
      have hZ := HZZ.out
      have hrv : (TB.rvs ⟨w.heap.size + 1, sb, c, rows, fun _ => 16, w.heap.size, 16, .slice none 0 0⟩ k) = rows.map fun r => rowv r 16 := by
        apply List.ext_getElem
        · simp [TB.rvs, HLEN.out]
        · intro i a1 a2
          have hi : i < rows.length := by simpa using a2
          simp [TB.rvs, hi]
      refine ⟨⟨w.heap.size + 1, sb, c, rows, fun _ => 16, w.heap.size, 16, .slice none 0 0⟩, rfl, ⟨⟨h1, h2, by simp [RT.new], by simp [RT.new], by simp [RT.new]⟩, ?_, HLEN.out, hG, ⟨sp, hc1, hc2, by rw [show (RT.new k).n = k from rfl, hrv]; exact hB⟩, fun i hi => ⟨[], ?_⟩, ⟨[], ?_⟩, ⟨rfl, .inl ⟨rfl, rfl⟩⟩⟩, N.kp, ?_⟩
      · exact TB.nd_mk (b := ⟨w.heap.size + 1, sb, c, rows, fun _ => 16, w.heap.size, 16, .slice none 0 0⟩) x1.symm N.n0.1 x2 (by simp [Value.ownBlock]) N.n0.2.1 x3 N.n0.2.2 N.nd
      · have hi2 : i < rows.length := by rw [HLEN.out]; exact hi
        have hm : rows.getD i 0 ∈ rows := by rw [List.getD_eq_getElem?_getD, List.getElem?_eq_getElem hi2]; exact List.getElem_mem hi2
        have hmr : (RT.new k).mrow i = zeros 16 := by
          exact new_mrow hi
        have := N.R _ hm
        rw [hZ] at this
        show Blk wr (rows.getD i 0) _ _
        rw [hmr]
        exact this
      · have := N.GL
        rw [hZ] at this
        exact this
      · intro x hx
        simp only [TB.all, List.mem_cons, List.mem_append, Option.mem_toList, Value.ownBlock] at hx
        rcases hx with rfl | rfl | rfl | hx | hx
        · omega
        · exact hle
        · exact Nat.le_refl _
        · cases hx
        · exact N.lo.2.2 x hx
end
end Go.Proofs.Ytnidadhoojbmeaa
