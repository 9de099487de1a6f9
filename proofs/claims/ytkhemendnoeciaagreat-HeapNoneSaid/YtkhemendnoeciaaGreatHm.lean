/-
  Plain mathematics of blocks that are claimed, released and retagged. No condition but those stated.
-/
import Derived.Test.YtkhemendnoeciaaGreatHl
namespace Go.Proofs.YtkhemendnoeciaaGreat
set_option linter.unusedVariables false
set_option linter.unusedSimpArgs false
open Go.RowKit Go.Deep Go.Maps

/-- n blocks from b on are v. -/
def rangeL (bl : List (Nat × Nat)) (b : Nat) (v : Nat × Nat) : Nat → List (Nat × Nat)
  | 0 => bl
  | n + 1 => (rangeL bl b v n).set (b + n) v
@[simp] theorem rangeL_length (bl : List (Nat × Nat)) (b : Nat) (v : Nat × Nat) (n : Nat) : (rangeL bl b v n).length = bl.length := by
  induction n with
  | zero => rfl
  | succ n ih => simp [rangeL, ih]
theorem getD_set (bl : List (Nat × Nat)) (i j : Nat) (v : Nat × Nat) (hi : i < bl.length) : (bl.set i v).getD j (0, 0) = if j = i then v else bl.getD j (0, 0) := by
  simp only [List.getD_eq_getElem?_getD, List.getElem?_set]
  by_cases h : i = j
  · subst h; simp [hi]
  · rw [if_neg h, if_neg (by omega)]
theorem rangeL_get (bl : List (Nat × Nat)) (b : Nat) (v : Nat × Nat) (n j : Nat) (h : b + n ≤ bl.length) : (rangeL bl b v n).getD j (0, 0) = if b ≤ j ∧ j < b + n then v else bl.getD j (0, 0) := by
  induction n with
  | zero => rw [if_neg (by omega)]; rfl
  | succ n ih =>
    unfold rangeL
    rw [getD_set _ _ _ _ (by simp; omega), ih (by omega)]
    by_cases h1 : j = b + n
    · rw [if_pos h1, if_pos (by omega)]
    · rw [if_neg h1]
      by_cases h2 : b ≤ j ∧ j < b + n
      · rw [if_pos h2, if_pos (by omega)]
      · rw [if_neg h2, if_neg (by omega)]
/-- n blocks from b on get a space. -/
def spaceL (bl : List (Nat × Nat)) (b s : Nat) : Nat → List (Nat × Nat)
  | 0 => bl
  | n + 1 => (spaceL bl b s n).set (b + n) (((spaceL bl b s n).getD (b + n) (0, 0)).1, s)
@[simp] theorem spaceL_length (bl : List (Nat × Nat)) (b s n : Nat) : (spaceL bl b s n).length = bl.length := by
  induction n with
  | zero => rfl
  | succ n ih => simp [spaceL, ih]
theorem spaceL_get (bl : List (Nat × Nat)) (b s n j : Nat) (h : b + n ≤ bl.length) : (spaceL bl b s n).getD j (0, 0) = if b ≤ j ∧ j < b + n then ((bl.getD j (0, 0)).1, s) else bl.getD j (0, 0) := by
  induction n with
  | zero => rw [if_neg (by omega)]; rfl
  | succ n ih =>
    unfold spaceL
    have ih' := ih (by omega)
    rw [getD_set _ _ _ _ (by simp; omega)]
    by_cases h1 : j = b + n
    · subst h1
      rw [if_pos rfl, if_pos (by omega), ih', if_neg (by omega)]
    · rw [if_neg h1, ih']
      by_cases h2 : b ≤ j ∧ j < b + n
      · rw [if_pos h2, if_pos (by omega)]
      · rw [if_neg h2, if_neg (by omega)]
/-- States alike: the same objects suit. -/
theorem grp_congr {bl bl' : List (Nat × Nat)} (hl : bl'.length = bl.length) {x : Nat} (hx : x < bl.length) (h : ∀ i, x < i → i ≤ grpEnd bl x → i < bl.length → ((bl'.getD i (0, 0)).1 = 3 ↔ (bl.getD i (0, 0)).1 = 3)) : grpEnd bl' x = grpEnd bl x := by
  obtain ⟨h1, h2, h3, h4⟩ := (grpEnd_iff bl x _ hx).1 rfl
  refine (grpEnd_iff bl' x _ (by omega)).2 ⟨h1, by omega, fun i hi hj => (h i hi (by omega) (by omega)).2 (h3 i hi hj), fun he hc => h4 (by omega) ((h _ (by omega) (Nat.le_refl _) (by omega)).1 hc)⟩
theorem suit_congr {bl bl' : List (Nat × Nat)} {a wd : Nat} (hs : suitB bl a wd = true) (h0 : (bl'.getD (a / 64) (0, 0)).1 = (bl.getD (a / 64) (0, 0)).1) (hg : (bl.getD (a / 64) (0, 0)).1 = 2 → grpEnd bl' (a / 64) = grpEnd bl (a / 64)) : suitB bl' a wd = true := by
  unfold suitB at hs ⊢
  rw [h0]
  split
  · rename_i h
    rw [if_pos h] at hs
    exact hs
  · rename_i h
    rw [if_neg h] at hs
    rw [hg (of_decide_eq_true hs).1]
    exact hs
theorem suit_st {bl : List (Nat × Nat)} {a wd : Nat} (hs : suitB bl a wd = true) : (bl.getD (a / 64) (0, 0)).1 = 1 ∨ (bl.getD (a / 64) (0, 0)).1 = 2 := by
  unfold suitB at hs
  split at hs
  · exact .inl (of_decide_eq_true hs).1
  · exact .inr (of_decide_eq_true hs).1
def HM.setBl (m : HM) (bl : List (Nat × Nat)) : HM := { m with bl := bl }
section
variable {m : HM} {r : RM}
theorem HM.Inv.setBl (I : m.Inv) {bl : List (Nat × Nat)} (hl : bl.length = m.bl.length) (h0 : (bl.getD 0 (0, 0)).1 = 0) (hf : ∀ b, (bl.getD b (0, 0)).1 = 0 → (bl.getD b (0, 0)).2 = 0) (hs : ∀ a o, m.ob a = some o → suitB bl a o.wd = true) : (m.setBl bl).Inv :=
  ⟨by show 2 ≤ bl.length; rw [hl]; exact I.len2, by show bl.length ≤ 64; rw [hl]; exact I.len64, h0, hf, I.even, I.ok, I.idb, hs, I.apart, I.ids⟩
theorem Abs.setBl (A : Abs r m) {bl : List (Nat × Nat)} (hl : bl.length = m.bl.length) (I : (m.setBl bl).Inv) : Abs { r with bl := bl } (m.setBl bl) := by
  have ea : (m.setBl bl).atI = m.atI := by
    funext i
    unfold HM.atI HM.at_ HM.n HM.setBl
    simp only [hl]
  exact ⟨I, rfl, A.born, ⟨A.rep.w_ob, A.rep.w_gap, A.rep.p_ob, A.rep.p_in, A.rep.p_gap, A.rep.n_ob, A.rep.n_gap⟩, by rw [ea]; exact A.dp, A.df, A.fs⟩
/-- Are n blocks from b on free. -/
def freeB (m : HM) (b n : Nat) : Bool := (List.range n).all fun i => decide (m.st (b + i) = 0)
theorem freeB_true {b n : Nat} : freeB m b n = true ↔ ∀ i, i < n → m.st (b + i) = 0 := by
  unfold freeB
  rw [List.all_eq_true]
  constructor
  · intro h i hi; exact of_decide_eq_true (h i (List.mem_range.2 hi))
  · intro h i hi; exact decide_eq_true (h i (List.mem_range.1 hi))
theorem freeB_false {b n i : Nat} (hi : i < n) (h : m.st (b + i) ≠ 0) : freeB m b n = false := by
  rcases hf : freeB m b n
  · rfl
  · exact absurd ((freeB_true.1 hf) i hi) h
def claimL (bl : List (Nat × Nat)) (b n s st : Nat) : List (Nat × Nat) := (rangeL bl b (3, s) n).set b (st, s)
theorem claimL_length (bl : List (Nat × Nat)) (b n s st : Nat) : (claimL bl b n s st).length = bl.length := by simp [claimL]
theorem claimL_get {bl : List (Nat × Nat)} {b n s st : Nat} (hn : 1 ≤ n) (h : b + n ≤ bl.length) (j : Nat) : (claimL bl b n s st).getD j (0, 0) = if j = b then (st, s) else if b ≤ j ∧ j < b + n then (3, s) else bl.getD j (0, 0) := by
  unfold claimL
  rw [getD_set _ _ _ _ (by simp; omega), rangeL_get _ _ _ _ _ h]
theorem claim_inv (I : m.Inv) {b n s st : Nat} (hb : 1 ≤ b) (hn : 1 ≤ n) (h : b + n ≤ m.bl.length) (hf : ∀ i, i < n → m.st (b + i) = 0) (hst : st = 1 ∨ st = 2) : (m.setBl (claimL m.bl b n s st)).Inv := by
  have G := fun j => claimL_get (bl := m.bl) (s := s) (st := st) hn h j
  refine I.setBl (claimL_length _ _ _ _ _) ?_ ?_ ?_
  · rw [G, if_neg (by omega), if_neg (by omega)]
    exact I.b0
  · intro j hj
    rw [G] at hj ⊢
    by_cases h1 : j = b
    · rw [if_pos h1] at hj
      simp only at hj
      omega
    · rw [if_neg h1] at hj ⊢
      by_cases h2 : b ≤ j ∧ j < b + n
      · rw [if_pos h2] at hj
        simp only at hj
        omega
      · rw [if_neg h2] at hj ⊢
        exact I.free0 j hj
  · intro a o ho
    have hs := I.lie a o ho
    have hx := suit_st hs
    have hxl := (suit_bd hs).1
    have hnr : ∀ j, m.st j ≠ 0 → ¬ (b ≤ j ∧ j < b + n) := fun j hj hc => hj (by have := hf (j - b) (by omega); rwa [show b + (j - b) = j by omega] at this)
    have hxr := hnr (a / 64) (by show (m.bl.getD (a / 64) (0, 0)).1 ≠ 0; omega)
    refine suit_congr hs ?_ (fun _ => ?_)
    · rw [G, if_neg (by omega), if_neg hxr]
    · refine grp_congr (claimL_length _ _ _ _ _) hxl (fun i h1 h2 h3 => ?_)
      rw [G]
      obtain ⟨g1, g2, g3, g4⟩ := (grpEnd_iff m.bl (a / 64) _ hxl).1 rfl
      by_cases h4 : i = b
      · rw [if_pos h4]
        have h5 : (m.bl.getD i (0, 0)).1 = 0 := by have := hf 0 (by omega); rw [h4]; exact this
        simp only
        omega
      · rw [if_neg h4]
        by_cases h5 : b ≤ i ∧ i < b + n
        · have h6 : (m.bl.getD i (0, 0)).1 = 0 := by have := hf (i - b) (by omega); rwa [show b + (i - b) = i by omega] at this
          exfalso
          have h7 := g3 (i - 1) (by omega) (by omega)
          have h8 := hf (i - 1 - b) (by omega)
          rw [show b + (i - 1 - b) = i - 1 by omega] at h8
          unfold HM.st at h8
          omega
        · rw [if_neg h5]
theorem release_inv (I : m.Inv) {b : Nat} (hb : 1 ≤ b) (hbl : b < m.bl.length) (hst : m.st b = 1 ∨ m.st b = 2) (ho : ∀ a o, m.ob a = some o → a / 64 ≠ b) : (m.setBl (rangeL m.bl b (0, 0) (grpEnd m.bl b - b))).Inv := by
  obtain ⟨g1, g2, g3, g4⟩ := (grpEnd_iff m.bl b _ hbl).1 rfl
  have G := fun j => rangeL_get m.bl b (0, 0) (grpEnd m.bl b - b) j (by omega)
  refine I.setBl (rangeL_length _ _ _ _) ?_ ?_ ?_
  · rw [G, if_neg (by omega)]
    exact I.b0
  · intro j hj
    rw [G] at hj ⊢
    by_cases h2 : b ≤ j ∧ j < b + (grpEnd m.bl b - b)
    · rw [if_pos h2]
    · rw [if_neg h2] at hj ⊢
      exact I.free0 j hj
  · intro a o hao
    have hs := I.lie a o hao
    have hx := suit_st hs
    have hxl := (suit_bd hs).1
    have hxb := ho a o hao
    have hxr : ¬ (b ≤ a / 64 ∧ a / 64 < b + (grpEnd m.bl b - b)) := fun hc => by
      have := g3 (a / 64) (by omega) (by omega)
      omega
    refine suit_congr hs ?_ (fun _ => ?_)
    · rw [G, if_neg hxr]
    · refine grp_congr (rangeL_length _ _ _ _) hxl (fun i h1 h2 h3 => ?_)
      rw [G]
      obtain ⟨e1, e2, e3, e4⟩ := (grpEnd_iff m.bl (a / 64) _ hxl).1 rfl
      by_cases h5 : b ≤ i ∧ i < b + (grpEnd m.bl b - b)
      · rw [if_pos h5]
        constructor
        · intro h; cases h
        · intro h
          exfalso
          by_cases hxlt : a / 64 < b
          · by_cases hib : i = b
            · subst hib
              unfold HM.st at hst
              omega
            · have := e3 b (by omega) (by omega)
              unfold HM.st at hst
              omega
          · omega
      · rw [if_neg h5]
theorem retag_inv (I : m.Inv) {b n s : Nat} (hb : 1 ≤ b) (h : b + n ≤ m.bl.length) (hn : ∀ i, i < n → m.st (b + i) ≠ 0) : (m.setBl (spaceL m.bl b s n)).Inv := by
  have G := fun j => spaceL_get m.bl b s n j h
  have G1 : ∀ j, ((spaceL m.bl b s n).getD j (0, 0)).1 = (m.bl.getD j (0, 0)).1 := fun j => by rw [G]; split <;> rfl
  refine I.setBl (spaceL_length _ _ _ _) ?_ ?_ ?_
  · rw [G1]; exact I.b0
  · intro j hj
    rw [G1] at hj
    rw [G]
    by_cases h2 : b ≤ j ∧ j < b + n
    · have := hn (j - b) (by omega)
      rw [show b + (j - b) = j by omega] at this
      exact absurd hj this
    · rw [if_neg h2]
      exact I.free0 j hj
  · intro a o ho
    have hs := I.lie a o ho
    have hxl := (suit_bd hs).1
    exact suit_congr hs (G1 _) (fun _ => grp_congr (spaceL_length _ _ _ _) hxl (fun i _ _ _ => by rw [G1]))
end
end Go.Proofs.YtkhemendnoeciaaGreat
