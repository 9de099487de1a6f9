/-
  The contract of the document's roots' Every. Conditions: those that stand in each theorem.
-/
import Derived.Test.YtnidadhoojbmeaaSc
import Derived.Test.YtnidadhoojbmeaaRh
namespace Go.Proofs.Ytnidadhoojbmeaa
set_option linter.unusedVariables false
set_option linter.unusedSimpArgs false
open Go.RowKit Go.Deep Go.Maps

def evSl (j : Nat) : List Pl := (List.range j).map fun j => ⟨0, j / 16, j % 16⟩
def evK (k j : Nat) : List Pl := (List.range j).map fun j => ⟨k, 0, j⟩
/-- All places, in order. -/
def RT.every (t : RT) : List Pl := evSl (16 * t.n) ++ evK 1 16 ++ evK 2 t.qu.length
theorem evSl_succ (m i : Nat) (hi : i < 16) : evSl (16 * m + (i + 1)) = evSl (16 * m + i) ++ [⟨0, m, i⟩] := by
  unfold evSl
  rw [← Nat.add_assoc, List.range_succ, List.map_append, List.map_singleton, show (16 * m + i) / 16 = m by omega, show (16 * m + i) % 16 = i by omega]
theorem evK_succ (k j : Nat) : evK k (j + 1) = evK k j ++ [⟨k, 0, j⟩] := by
  unfold evK
  rw [List.range_succ, List.map_append, List.map_singleton]
@[simp] theorem evSl_length (j : Nat) : (evSl j).length = j := by simp [evSl]
@[simp] theorem evK_length (k j : Nat) : (evK k j).length = j := by simp [evK]
/-- A slice of places of the call's own, as it grows. -/
structure PRow (w : World) (B : Nat) (l : List Pl) (v : Value) (W : World) : Prop where
  own : W.ownsRow B 33 3 v l.length (plcells l)
  bel : Below B w W
section
variable {w w' W w9 : World} {B : Nat} {l : List Pl} {v v' : Value} {p : Pl}
theorem PRow.nil (w : World) (B : Nat) : PRow w B [] (.slice none 0 0) w := ⟨⟨rfl, .inl ⟨rfl, rfl⟩⟩, Below.refl _ _⟩
theorem PRow.step (h : PRow w B l v W) (hB : B ≤ w.heap.size) (hown : w9.ownsRow B 33 3 v' (l.length + 1) (plcells l ++ [.int .i64 (p.k : Int), .int .i64 (p.m : Int), .int .i64 (p.i : Int)])) (hgr : (W.alloc (.cells #[.int .i64 (p.k : Int), .int .i64 (p.m : Int), .int .i64 (p.i : Int)] 33)).grownBy w9 v.ownBlock) : PRow w B (l ++ [p]) v' w9 := by
  refine ⟨?_, ?_⟩
  · rw [List.length_append, plcells_append]
    exact hown
  · have hs := h.bel.size
    refine (h.bel.alloc (Nat.le_trans hB hs) _).grown hgr ?_ ?_
    · simp
      omega
    · intro k hk
      rcases h.own.2 with ⟨hv, _⟩ | ⟨g', cap, cur, hv, hg, _⟩
      · rw [hv] at hk; simp [Value.ownBlock] at hk
      · rw [hv] at hk; simp [Value.ownBlock] at hk
        omega
theorem PRow.kp0 (h : PRow w B l v W) (hB : B ≤ w.heap.size) (k : Kp [] W w') : PRow w B l v w' := ⟨own_kp0 h.own k, ⟨k.os.trans h.bel.os, k.tape.trans h.bel.tape, k.output.trans h.bel.output, Nat.le_trans h.bel.size k.size, fun j hj => (k.block j (by have := h.bel.size; omega) (by simp)).trans (h.bel.block j hj)⟩⟩
theorem pl_one (p : Pl) : ∀ u ∈ ([.int .i64 (p.k : Int), .int .i64 (p.m : Int), .int .i64 (p.i : Int)] : List Value), u.oneCell' = true := by
  intro u hu; simp only [List.mem_cons, List.not_mem_nil, or_false] at hu; rcases hu with rfl | rfl | rfl <;> rfl
end
section
variable {w w' W : World} {b : TB} {t : RT}
set_option maxRecDepth 100000 in
set_option maxHeartbeats 2000000 in
theorem t_every (T : TR w b t) :
    Calls Try.prog 38 #[.pointer (some ⟨b.g, 0, none⟩)] w (RowPl w.heap.size w t.every) := by
  have HT := hid T
  obtain ⟨i0, hi0, hz0, hz1, hz2⟩ := info_parts infoPlace
  have hn4 := T.ok.n4
  have hql := T.ok.qu
  have HTP : Hid (∀ v W l, PRow w w.heap.size l v W → TR W b t) := fun v W l h => T.kp0 (Kp.of_below h.bel)
  obtain ⟨A, cap, hq⟩ : ∃ A cap, b.wv = .slice A t.qu.length cap := by
    rcases T.q_form with ⟨hv, h0⟩ | ⟨g, cap, hv, _⟩
    · exact ⟨none, 0, by rw [hv, h0]; rfl⟩
    · exact ⟨_, _, hv⟩
  have HQ := hid hq
  clear T hq
  go_enter Try.func38, Try.ntmps38
  go_wp2_with (go_at_call 26; refine (t_made HT.out).mono ?_; rintro e w' ⟨rfl, n1, rfl⟩)
  go_loopw [3, 4] (fun out m wr => ∃ k : Nat, k ≤ t.n ∧ m = .int .i64 (k : Int) ∧ PRow w w.heap.size (evSl (16 * k)) out wr) (fun _ m _ => t.n - (intOf m).toNat)
  case atStart => exact ⟨0, by omega, rfl, (PRow.nil w _).kp0 (Nat.le_refl _) (Kp.draw _ _)⟩
  case round =>
    obtain ⟨k, hk, rfl, P⟩ := hrel
    have c0 := (HTP.out _ _ _ P).c0
    have HP := hid P
    clear P
    by_cases hlt : k < t.n
    · go_wp2
      go_loopw [3, 5] (fun out m wr => ∃ i : Nat, i ≤ 16 ∧ m = .int .i64 (i : Int) ∧ PRow w w.heap.size (evSl (16 * k + i)) out wr) (fun _ m _ => 16 - (intOf m).toNat)
      case atStart => exact ⟨0, by omega, rfl, HP.out⟩
      case round =>
        clear HP
        obtain ⟨i, hi, rfl, P⟩ := hrel
        have HP := hid P
        have HLN : Hid ((evSl (16 * k + i)).length ≤ 1000) := by show _ ≤ _; rw [evSl_length]; omega
        have HN := hid (blk_newV wr [.int .i64 0, .int .i64 (k : Int), .int .i64 (i : Int)] 33)
        have HONE := hid (pl_one ⟨0, k, i⟩)
        clear P
        by_cases hlt2 : i < 16
        · go_wp2_with (first
            | (at_builtin; go_loud (refine wpList_append_own_at _ rfl (.tmp 25) (.tmp 29) 47 rfl w.heap.size 33 i0 (.agg #[.int .i64 0, .int .i64 0, .int .i64 0]) 3 24 Try.underlying47 hi0 hz0 hz1 hz2 rfl (by decide) _ _ _ rfl (HP.out.own.alloc _) ⟨wr.heap.size, 0, none⟩ 1 1 [.int .i64 0, .int .i64 (k : Int), .int .i64 (i : Int)] rfl rfl HN.out HONE.out (by have := HLN.out; unfold maxLen; omega) (by have := HLN.out; omega) (by have := HP.out.bel.size; simp; omega) ?_; intro v' w9 hown' hgr _ hat; have HP9 := hid (HP.out.step (p := ⟨0, k, i⟩) (Nat.le_refl _) hown' hgr); clear hown' hgr hat)))
          go_roundw
          case rel => exact ⟨i + 1, by omega, by go_num, by rw [evSl_succ k i hlt2]; exact HP9.out⟩
          case measure => simp [intOf]; omega
        · obtain rfl : i = 16 := by omega
          go_wp2
          go_roundw
          case rel => exact ⟨k + 1, by omega, by go_num, by rw [show 16 * (k + 1) = 16 * k + 16 by omega]; exact HP.out⟩
          case measure => simp [intOf]; omega
    · obtain rfl : k = t.n := by omega
      go_wp2
      go_loopw [3, 6] (fun out m wr => ∃ i : Nat, i ≤ 16 ∧ m = .int .i64 (i : Int) ∧ PRow w w.heap.size (evSl (16 * t.n) ++ evK 1 i) out wr) (fun _ m _ => 16 - (intOf m).toNat)
      case atStart => exact ⟨0, by omega, rfl, by rw [show evK 1 0 = [] from rfl, List.append_nil]; exact HP.out⟩
      case round =>
        clear HP c0
        obtain ⟨i, hi, rfl, P⟩ := hrel
        have HLN : Hid ((evSl (16 * t.n) ++ evK 1 i).length ≤ 1000) := by show _ ≤ _; rw [List.length_append, evSl_length, evK_length]; omega
        have HN := hid (blk_newV wr [.int .i64 1, .int .i64 0, .int .i64 (i : Int)] 33)
        have HONE := hid (pl_one ⟨1, 0, i⟩)
        have c2 := (HTP.out _ _ _ P).c2
        rw [HQ.out] at c2
        have HP := hid P
        clear P
        by_cases hlt2 : i < 16
        · go_wp2_with (first
            | (at_builtin; go_loud (refine wpList_append_own_at _ rfl (.tmp 35) (.tmp 38) 47 rfl w.heap.size 33 i0 (.agg #[.int .i64 0, .int .i64 0, .int .i64 0]) 3 24 Try.underlying47 hi0 hz0 hz1 hz2 rfl (by decide) _ _ _ rfl (HP.out.own.alloc _) ⟨wr.heap.size, 0, none⟩ 1 1 [.int .i64 1, .int .i64 0, .int .i64 (i : Int)] rfl rfl HN.out HONE.out (by have := HLN.out; unfold maxLen; omega) (by have := HLN.out; omega) (by have := HP.out.bel.size; simp; omega) ?_; intro v' w9 hown' hgr _ hat; have HP9 := hid (HP.out.step (p := ⟨1, 0, i⟩) (Nat.le_refl _) hown' hgr); clear hown' hgr hat)))
          go_roundw
          case rel => exact ⟨i + 1, by omega, by go_num, by rw [evK_succ, ← List.append_assoc]; exact HP9.out⟩
          case measure => simp [intOf]; omega
        · obtain rfl : i = 16 := by omega
          go_wp2
          go_loopw [3, 7] (fun out m wr => ∃ i : Nat, i ≤ t.qu.length ∧ m = .int .i64 (i : Int) ∧ PRow w w.heap.size (evSl (16 * t.n) ++ evK 1 16 ++ evK 2 i) out wr) (fun _ m _ => t.qu.length - (intOf m).toNat)
          case atStart => exact ⟨0, by omega, rfl, by rw [show evK 2 0 = [] from rfl, List.append_nil]; exact HP.out⟩
          case round =>
            clear HP c2 HLN HN HONE
            obtain ⟨i, hi, rfl, P⟩ := hrel
            have HLN : Hid ((evSl (16 * t.n) ++ evK 1 16 ++ evK 2 i).length ≤ 1000) := by show _ ≤ _; rw [List.length_append, List.length_append, evSl_length, evK_length, evK_length]; omega
            have HN := hid (blk_newV wr [.int .i64 2, .int .i64 0, .int .i64 (i : Int)] 33)
            have HONE := hid (pl_one ⟨2, 0, i⟩)
            have c2 := (HTP.out _ _ _ P).c2
            rw [HQ.out] at c2
            have HP := hid P
            clear P
            by_cases hlt3 : i < t.qu.length
            · go_wp2_with (first
                | (at_builtin; go_loud (refine wpList_append_own_at _ rfl (.tmp 49) (.tmp 52) 47 rfl w.heap.size 33 i0 (.agg #[.int .i64 0, .int .i64 0, .int .i64 0]) 3 24 Try.underlying47 hi0 hz0 hz1 hz2 rfl (by decide) _ _ _ rfl (HP.out.own.alloc _) ⟨wr.heap.size, 0, none⟩ 1 1 [.int .i64 2, .int .i64 0, .int .i64 (i : Int)] rfl rfl HN.out HONE.out (by have := HLN.out; unfold maxLen; omega) (by have := HLN.out; omega) (by have := HP.out.bel.size; simp; omega) ?_; intro v' w9 hown' hgr _ hat; have HP9 := hid (HP.out.step (p := ⟨2, 0, i⟩) (Nat.le_refl _) hown' hgr); clear hown' hgr hat)))
              go_roundw
              case rel => exact ⟨i + 1, by omega, by go_num, by rw [evK_succ 2 i, ← List.append_assoc]; exact HP9.out⟩
              case measure => simp [intOf]; omega
            · obtain rfl : i = t.qu.length := by omega
              go_wp2
              go_ret
              exact ⟨_, rfl, HP.out.own, HP.out.bel⟩
end
end Go.Proofs.Ytnidadhoojbmeaa
