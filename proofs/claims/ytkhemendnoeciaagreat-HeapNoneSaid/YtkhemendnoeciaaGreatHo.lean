/-
  The contracts of package heap's firstPairs, Objects, All, Word. Conditions: those that stand in each theorem.
-/
import Derived.Test.YtkhemendnoeciaaGreatHn
namespace Go.Proofs.YtkhemendnoeciaaGreat
set_option linter.unusedVariables false
set_option linter.unusedSimpArgs false
open Go.RowKit Go.Deep Go.Maps

/-- The addresses of the objects that begin in n pairs from f on. -/
def fpL (m : HM) (f : Nat) : Nat → List Int
  | 0 => []
  | n + 1 => if (m.ob (2 * (f + n))).isSome then fpL m f n ++ [((2 * (f + n) : Nat) : Int)] else fpL m f n
theorem fpL_le (m : HM) (f n : Nat) : (fpL m f n).length ≤ n := by
  induction n with
  | zero => exact Nat.le_refl _
  | succ n ih =>
    unfold fpL
    split
    · rw [List.length_append]; simp; omega
    · omega
theorem fpL_mem (m : HM) (f n : Nat) (z : Int) : z ∈ fpL m f n ↔ ∃ i, i < n ∧ z = ((2 * (f + i) : Nat) : Int) ∧ (m.ob (2 * (f + i))).isSome = true := by
  induction n with
  | zero => simp [fpL]
  | succ n ih =>
    unfold fpL
    split
    · rename_i h
      rw [List.mem_append, ih]
      constructor
      · rintro (⟨i, h1, h2, h3⟩ | h1)
        · exact ⟨i, by omega, h2, h3⟩
        · exact ⟨n, by omega, by simpa using h1, h⟩
      · rintro ⟨i, h1, h2, h3⟩
        by_cases hi : i < n
        · exact .inl ⟨i, hi, h2, h3⟩
        · obtain rfl : i = n := by omega
          exact .inr (by simpa using h2)
    · rename_i h
      rw [ih]
      constructor
      · rintro ⟨i, h1, h2, h3⟩
        exact ⟨i, by omega, h2, h3⟩
      · rintro ⟨i, h1, h2, h3⟩
        by_cases hi : i < n
        · exact ⟨i, hi, h2, h3⟩
        · obtain rfl : i = n := by omega
          exact absurd h3 h
theorem fpL_sorted (m : HM) (f n : Nat) : (fpL m f n).Pairwise (· < ·) := by
  induction n with
  | zero => exact List.Pairwise.nil
  | succ n ih =>
    unfold fpL
    split
    · rw [List.pairwise_append]
      refine ⟨ih, List.pairwise_singleton _ _, fun a ha b hb => ?_⟩
      obtain ⟨i, h1, h2, _⟩ := (fpL_mem m f n a).1 ha
      simp at hb
      subst hb h2
      show ((2 * (f + i) : Nat) : Int) < _
      omega
    · exact ih
section
variable {w w' : World} {b : HB} {r : RM} {m : HM} {q : Nat}
theorem SH.below {B : Nat} (h : SH w b q m) (k : Below B w w') (hb : ∀ x ∈ b.all, x < B) : SH w' b q m := by
  obtain ⟨r, R, A⟩ := h
  refine ⟨r, R.kp (S := (List.range w.heap.size).filter (fun x => decide (B ≤ x))) ⟨k.os, k.tape, k.output, k.size, fun i hi hn => k.block i (by
    rcases Nat.lt_or_ge i B with h1 | h1
    · exact h1
    · exact absurd (List.mem_filter.2 ⟨List.mem_range.2 hi, by simpa using h1⟩) hn)⟩ (fun x hx hc => ?_), A⟩
  have := (List.mem_filter.1 hc).2
  have := hb x hx
  simp at *
  omega
theorem Abs.pairN (A : Abs r m) (R : Raw w b r) (k : Nat) : (getS r.ps (k : Int) == 1) = (m.ob (2 * k)).isSome := by
  have := A.pair1 R (2 * k) (by omega)
  rw [show (((2 * k : Nat) : Int) / 2) = (k : Int) by omega] at this
  exact this
set_option maxHeartbeats 2000000 in
set_option maxRecDepth 100000 in
theorem h_first (h : SH w b q m) (f n : Nat) (hf : f + n ≤ 100000) :
    Calls Tryz.prog 89 #[.pointer (some ⟨b.g, 0, none⟩), .int .i64 (f : Int), .int .i64 ((f : Int) + (n : Int))] w (RowP w.heap.size w (fpL m f n)) := by
  obtain ⟨i0, hi0, hz0, hz1, hz2⟩ := info_parts infoInt
  have hlt := h.lt
  have HH := hid h
  have HLT := hid hlt
  clear h hlt
  go_enter Tryz.func89, Tryz.ntmps89
  go_wp2
  go_loopw [7, 8] (fun s c wr => ∃ k : Nat, k ≤ n ∧ c = .int .i64 ((f : Int) + (k : Int)) ∧ wr.ownsRow w.heap.size 3 1 s (fpL m f k).length (zcells (fpL m f k)) ∧ Below w.heap.size w wr) (fun _ c _ => f + n - (intOf c).toNat)
  case atStart => exact ⟨0, by omega, by simp, ⟨rfl, .inl ⟨rfl, rfl⟩⟩, Below.refl _ _⟩
  case round =>
    obtain ⟨k, hk, rfl, own, hbel⟩ := hrel
    have S1 := HH.out.below hbel HLT.out
    obtain ⟨r, R, A, _⟩ := S1
    have hc2 := R.c2
    have hp := A.pairN R (f + k)
    rw [show (((f + k : Nat) : Int)) = (f : Int) + (k : Int) by omega] at hp
    have HO := hid own
    have HB := hid hbel
    have hle := fpL_le m f k
    clear own hbel A
    by_cases hlt : k < n
    · rcases hs : (m.ob (2 * (f + k))).isSome
      · have e : fpL m f (k + 1) = fpL m f k := by simp [fpL, hs]
        have HE := hid e
        rw [hs] at hp
        clear e hs
        go_wp2_with (go_at_call 127; refine (get_any R.TP _).mono ?_; rintro e w' ⟨rfl, n1, rfl⟩)
        go_roundw
        case rel => exact ⟨k + 1, by omega, by go_num, by rw [HE.out]; exact HO.out, below_drewN HB.out n1⟩
        case measure => simp [intOf]; omega
      · have e : fpL m f (k + 1) = fpL m f k ++ [((f : Int) + (k : Int)) * 2] := by
          simp only [fpL, hs, if_true]
          congr 2
          omega
        have HE := hid e
        rw [hs] at hp
        clear e hs
        have HN : Hid _ := one_new wr (((f : Int) + (k : Int)) * 2)
        have NONE := one_cell (((f : Int) + (k : Int)) * 2)
        have HSZ : Hid (w.heap.size ≤ wr.heap.size) := HB.out.size
        go_wp2_with (first
          | (go_at_call 127; refine (get_any R.TP _).mono ?_; rintro e w' ⟨rfl, n1, rfl⟩)
          | (at_builtin; refine wpList_append_own _ rfl (.tmp 22) (.tmp 25) 42 rfl w.heap.size 3 i0 (.int .i64 0) 1 8 Tryz.underlying42 hi0 hz0 hz1 hz2 rfl (by decide) _ _ _ rfl ((show (wr.drewN n1).ownsRow _ _ _ _ _ _ from HO.out).alloc _) ⟨wr.heap.size, 0, none⟩ 1 1 [.int .i64 (((f : Int) + (k : Int)) * 2)] rfl rfl (HN.out n1) NONE (by unfold maxLen; omega) (by omega) (by have := HSZ.out; simp; omega) ?_; intro v' w1 hown' hgr _; have HO' := hid hown'; have HG := hid hgr; clear hown' hgr))
        go_roundw
        case rel =>
          obtain ⟨z1, z2⟩ := row_end HSZ.out rfl HO.out HO'.out HG.out
          exact ⟨k + 1, by omega, by go_num, by rw [HE.out]; exact z1, HB.out.trans z2⟩
        case measure => simp [intOf]; omega
    · obtain rfl : k = n := by omega
      go_wp2
      go_ret
      exact ⟨_, rfl, HO.out, HB.out⟩
end
end Go.Proofs.YtkhemendnoeciaaGreat
