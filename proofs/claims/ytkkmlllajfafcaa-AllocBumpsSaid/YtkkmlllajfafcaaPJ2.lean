/-
  Plain mathematics for the law AllocBumps: where an allocator that bumps places an object. No condition but those stated.
-/
import Derived.Test.YtkkmlllajfafcaaPJ1
namespace Go.Proofs.Ytkkmlllajfafcaa
set_option linter.unusedVariables false
set_option linter.unusedSimpArgs false
open Go.RowKit Go.Deep Go.Maps

/-- The cursor is nowhere, or in the block that ends at the limit. -/
def AS.Bump (A : AS) : Prop := A.po = 3 ∧ ((A.c = 0 ∧ A.l = 0) ∨ (A.l % 64 = 0 ∧ A.l < A.c + 64 ∧ A.c ≤ A.l))
section
variable {m : HM} {A : AS}
theorem freeB_mod {c : Nat} (hc : 1 ≤ c) : m.freeB c % 64 = 0 := by
  unfold HM.freeB
  split
  · omega
  · rfl
theorem alE_cases (x d k : Int) : m.alE A x d k = 0 ∨ (m.alE A x d k ≠ 0 ∧ m.alA A x d k = A ∧ m.alM A x d k = m) := by
  by_cases h : m.alE A x d k = 0
  · exact .inl h
  · refine .inr ⟨h, ?_, ?_⟩
    · unfold HM.alA; rw [if_neg h]
    · unfold HM.alM; rw [if_neg h]
theorem al_valid {x d k : Int} (h : m.alE A x d k = 0) : vldB x d k = true ∧ (m.choose A (wdN x.toNat d.toNat)).1 ≠ 0 ∧ m.alV A x d k = (m.choose A (wdN x.toNat d.toNat)).1 ∧ m.alA A x d k = (m.choose A (wdN x.toNat d.toNat)).2 := by
  have h0 := h
  unfold HM.alE at h
  rcases hv : vldB x d k
  · rw [hv] at h; simp at h
  · rw [hv] at h
    simp only [if_true] at h
    by_cases hz : (m.choose A (wdN x.toNat d.toNat)).1 = 0
    · rw [if_pos hz] at h; exact absurd h (by decide)
    · refine ⟨rfl, hz, ?_, ?_⟩
      · unfold HM.alV; rw [hv]; rfl
      · unfold HM.alA; rw [if_pos h0]
theorem bump_large {x d k : Int} (h : m.alE A x d k = 0) (hw : ¬ wdN x.toNat d.toNat ≤ 32) : m.alA A x d k = A := by
  rw [(al_valid h).2.2.2]
  unfold HM.choose
  rw [if_pos (by omega)]
theorem bump_small (hB : A.Bump) {x d k : Int} (h : m.alE A x d k = 0) (hw : wdN x.toNat d.toNat ≤ 32) (hw2 : 1 ≤ wdN x.toNat d.toNat) :
    (m.alV A x d k = A.c ∨ (m.alV A x d k % 64 = 0 ∧ ¬ (0 < A.c % 64 ∧ A.c % 64 + wdN x.toNat d.toNat ≤ 64))) ∧ (m.alA A x d k).c = m.alV A x d k + wdN x.toNat d.toNat ∧ (m.alA A x d k).Bump := by
  obtain ⟨h1, h2, h3, h4⟩ := al_valid h
  obtain ⟨hp, hc⟩ := hB
  rw [h3, h4]
  generalize wdN x.toNat d.toNat = n at *
  have e : m.choose A n = ((m.bumpA A.sp (A.c, A.l) n).1, { A with c := (m.bumpA A.sp (A.c, A.l) n).2.1, l := (m.bumpA A.sp (A.c, A.l) n).2.2 }) := by
    unfold HM.choose
    rw [if_neg (by omega), if_neg (by omega), if_neg (by omega), if_neg (by omega), if_pos hp]
  rw [e] at h2 ⊢
  simp only at h2 ⊢
  unfold HM.bumpA at h2 ⊢
  by_cases hf : fitA (A.c, A.l) n = true
  · rw [if_pos hf] at h2 ⊢
    have hf2 := fits_iff.1 hf
    by_cases hg : m.isGapB A.sp A.c n = true
    · simp only [hg, if_true] at h2 ⊢
      unfold takeA
      refine ⟨.inl rfl, rfl, hp, .inr ?_⟩
      simp only
      omega
    · simp only [hg] at h2
      exact absurd rfl h2
  · rw [if_neg hf] at h2 ⊢
    have hf2 : ¬ A.c + n ≤ A.l := fun hh => hf (fits_iff.2 hh)
    have hm := freeB_mod (m := m) (c := 1) (by omega)
    unfold takeA HM.freeA
    refine ⟨.inr ⟨hm, fun hh => ?_⟩, rfl, hp, .inr ?_⟩
    · rcases hc with ⟨h5, h6⟩ | ⟨h5, h6, h7⟩
      · rw [h5] at hh; omega
      · omega
    · simp only
      omega
theorem AS.new_bump (s : Nat) : (AS.new s 3).Bump := ⟨rfl, .inl ⟨rfl, rfl⟩⟩
end
end Go.Proofs.Ytkkmlllajfafcaa
