/-
  What Collect leaves: plain mathematics. Conditions: those that stand in each theorem.
-/
import Derived.Test.YtbiompmklijgoaaDoorPZk
namespace Go.Proofs.YtbiompmklijgoaaDoor
set_option linter.unusedVariables false
set_option linter.unusedSimpArgs false
open Go.RowKit Go.Deep Go.Maps

/-- Collect empties the loose references of object x. -/
def MT.cuts (t : MT) (kb : List Bool) (x : Int) : Bool := kb.getD x.toNat false && (decide ((t.obj x).k = 1) || decide ((t.obj x).k = 2)) && !(kb.getD (t.rf x 0).toNat false)
/-- And changes something by it. -/
def MT.told (t : MT) (kb : List Bool) (x : Int) : Bool := t.cuts kb x && ((t.rf x 0 != 0) || (decide ((t.obj x).k = 2) && (t.rf x 1 != 0)))
structure CSt (t : MT) (kb : List Bool) (k : Nat) (p : MT × Nat) : Prop where
  like : t.Like p.1
  ok : p.1.Ok
  rf : ∀ x, t.has x = true → ∀ i, i < (t.obj x).r → p.1.rf x i = if x < (k : Int) ∧ t.cuts kb x = true ∧ i < looseN (t.obj x).k then 0 else t.rf x i
  dw : ∀ x, t.has x = true → ∀ i, i < (t.obj x).d → p.1.dw x i = t.dw x i
  cnt : p.2 = ((List.range k).filter (fun i : Nat => t.told kb (i : Int))).length
theorem MT.Like.obj {t t' : MT} (h : t.Like t') (x : Int) : t'.obj x = t.obj x := by unfold MT.obj; rw [h.ob]
theorem MT.Like.has {t t' : MT} (h : t.Like t') (x : Int) : t'.has x = t.has x := by unfold MT.has; rw [h.ob]
theorem MT.Like.roots {t t' : MT} (h : t.Like t') : t'.roots = t.roots := by unfold MT.roots; rw [h.sl, h.gl, h.qu]
theorem MT.Ok.zeroRef {t : MT} (ok : t.Ok) (p : Nat) : (t.setW p 0).Ok := ok.setW ⟨by omega, by omega⟩ (fun _ _ _ _ _ => ⟨by omega, by omega⟩)
theorem filt_succ (f : Nat → Bool) (k : Nat) : ((List.range (k + 1)).filter f).length = ((List.range k).filter f).length + (if f k = true then 1 else 0) := by
  rw [List.range_succ, List.filter_append, List.length_append]
  by_cases h : f k = true
  · simp [h]
  · simp [h]
theorem CSt.zero {t : MT} (ok : t.Ok) (kb : List Bool) : CSt t kb 0 (t, 0) := by
  refine ⟨.refl t, ok, fun x hx i hi => ?_, fun _ _ _ _ => rfl, rfl⟩
  have := of_decide_eq_true hx
  rw [if_neg]
  rintro ⟨h, _⟩
  simp at h
  omega
theorem CSt.next {t : MT} {kb : List Bool} {k : Nat} {p : MT × Nat} (ok : t.Ok) (h : CSt t kb k p) (hk : k ≤ t.ob.length) (hk0 : kb.getD 0 false = false) :
    CSt t kb (k + 1) (if kb.getD k false = true then ((p.1.clr kb (k : Int)).1, p.2 + (if (p.1.clr kb (k : Int)).2 = true then 1 else 0)) else p) := by
  have hcases : ∀ x : Int, (x < ((k + 1 : Nat) : Int)) ↔ (x < (k : Int) ∨ x = (k : Int)) := fun x => by omega
  by_cases hkb : kb.getD k false = true
  · rw [if_pos hkb]
    have hkne : k ≠ 0 := by rintro rfl; rw [hk0] at hkb; cases hkb
    have hhas : t.has (k : Int) = true := decide_eq_true ⟨by omega, by omega⟩
    have hhas1 : p.1.has (k : Int) = true := by rw [h.like.has]; exact hhas
    have hobj := h.like.obj (k : Int)
    have hno : ¬ ((k : Int) < (k : Int)) := by omega
    have hr : ∀ i, i < (t.obj (k : Int)).r → p.1.rf (k : Int) i = t.rf (k : Int) i := fun i hi => by rw [h.rf _ hhas i hi, if_neg (fun hh => hno hh.1)]
    have hcut : t.cuts kb (k : Int) = ((decide ((t.obj (k : Int)).k = 1) || decide ((t.obj (k : Int)).k = 2)) && !(kb.getD (t.rf (k : Int) 0).toNat false)) := by
      unfold MT.cuts
      rw [Int.toNat_natCast, hkb]
      simp
    -- nothing is cut
    have nothing : t.cuts kb (k : Int) = false → CSt t kb (k + 1) (p.1, p.2 + 0) := fun hc => by
      refine ⟨h.like, h.ok, fun x hx i hi => ?_, h.dw, ?_⟩
      · rw [h.rf x hx i hi]
        by_cases hxk : x = (k : Int)
        · subst hxk
          rw [if_neg (fun hh => hno hh.1), if_neg (fun hh => by rw [hc] at hh; cases hh.2.1)]
        · by_cases hh : x < (k : Int) ∧ t.cuts kb x = true ∧ i < looseN (t.obj x).k
          · rw [if_pos hh, if_pos ⟨by omega, hh.2⟩]
          · rw [if_neg hh, if_neg (fun h2 => hh ⟨by omega, h2.2⟩)]
      · rw [filt_succ, h.cnt]
        have : t.told kb ((k : Nat) : Int) = false := by unfold MT.told; rw [hc]; rfl
        rw [this]
        simp
    by_cases hkind : (t.obj (k : Int)).k = 1 ∨ (t.obj (k : Int)).k = 2
    · have hr1 : looseN (t.obj (k : Int)).k ≤ (t.obj (k : Int)).r ∧ 0 < looseN (t.obj (k : Int)).k := by
        obtain ⟨a, e, ha, hoa⟩ := MT.has_nat hhas
        have := of_decide_eq_true (ok.sh a ha)
        rw [hoa] at hkind ⊢
        rcases hkind with hq | hq
        · rw [hq]
          exact ⟨show 1 ≤ _ by omega, show 0 < 1 by omega⟩
        · rw [hq]
          exact ⟨show 2 ≤ _ by omega, show 0 < 2 by omega⟩
      have h0 : p.1.rf (k : Int) 0 = t.rf (k : Int) 0 := hr 0 (by omega)
      by_cases hkey : kb.getD (t.rf (k : Int) 0).toNat false = true
      · have e : p.1.clr kb (k : Int) = (p.1, false) := by
          unfold MT.clr
          rw [hobj, if_pos hkind, h0, if_pos hkey]
        rw [e]
        exact nothing (by rw [hcut, hkey]; simp)
      · have hkey' : kb.getD (t.rf (k : Int) 0).toNat false = false := by simpa using hkey
        have hct : t.cuts kb (k : Int) = true := by
          rw [hcut, hkey']
          rcases hkind with hq | hq <;> rw [hq] <;> rfl
        rcases hkind with hq | hq
        · have e : p.1.clr kb (k : Int) = (p.1.setW ((t.obj (k : Int)).f + 0) 0, t.rf (k : Int) 0 != 0) := by
            unfold MT.clr
            rw [hobj, if_pos (.inl hq), h0, if_neg hkey, if_pos hq]
            rfl
          rw [e]
          have hl1 : looseN (t.obj (k : Int)).k = 1 := by rw [hq]; rfl
          refine ⟨h.like.trans (.setW _ _ _), h.ok.zeroRef _, fun x hx i hi => ?_, fun x hx i hi => ?_, ?_⟩
          · have hs := h.ok.rf_set (x := x) (z := (k : Int)) (by rw [h.like.has]; exact hx) hhas1 (by rw [h.like.obj]; exact hi) (j := 0) (by rw [hobj]; omega) 0
            rw [hobj] at hs
            rw [hs, h.rf x hx i hi]
            by_cases hxk : x = (k : Int)
            · subst hxk
              rw [hl1]
              by_cases hi0 : i = 0
              · subst hi0
                rw [if_pos ⟨rfl, rfl⟩, if_pos ⟨by omega, hct, by omega⟩]
              · rw [if_neg (fun hh => hi0 hh.2), if_neg (fun hh => hno hh.1), if_neg (fun hh => hi0 (by omega))]
            · rw [if_neg (fun hh => hxk hh.1)]
              by_cases hh : x < (k : Int) ∧ t.cuts kb x = true ∧ i < looseN (t.obj x).k
              · rw [if_pos hh, if_pos ⟨by omega, hh.2⟩]
              · rw [if_neg hh, if_neg (fun h2 => hh ⟨by omega, h2.2⟩)]
          · have hs := h.ok.dw_set (x := x) (z := (k : Int)) (by rw [h.like.has]; exact hx) hhas1 (by rw [h.like.obj]; exact hi) (j := 0) (by rw [hobj]; omega) 0
            rw [hobj] at hs
            rw [hs]
            exact h.dw x hx i hi
          · show p.2 + _ = _
            rw [filt_succ, h.cnt]
            have : t.told kb ((k : Nat) : Int) = (t.rf (k : Int) 0 != 0) := by unfold MT.told; rw [hct, hq]; simp
            rw [this]
        · have e : p.1.clr kb (k : Int) = ((p.1.setW ((t.obj (k : Int)).f + 0) 0).setW ((t.obj (k : Int)).f + 1) 0, (t.rf (k : Int) 0 != 0) || (t.rf (k : Int) 1 != 0)) := by
            unfold MT.clr
            rw [hobj, if_pos (.inr hq), h0, if_neg hkey, if_neg (by omega)]
            have hl2 : looseN (t.obj (k : Int)).k = 2 := by rw [hq]; rfl
            rw [hr 1 (by omega)]
            rfl
          rw [e]
          have hl2 : looseN (t.obj (k : Int)).k = 2 := by rw [hq]; rfl
          have lk1 : t.Like (p.1.setW ((t.obj (k : Int)).f + 0) 0) := h.like.trans (.setW _ _ _)
          have ok1 := h.ok.zeroRef ((t.obj (k : Int)).f + 0)
          refine ⟨lk1.trans (.setW _ _ _), ok1.zeroRef _, fun x hx i hi => ?_, fun x hx i hi => ?_, ?_⟩
          · have hs2 := ok1.rf_set (x := x) (z := (k : Int)) (by rw [lk1.has]; exact hx) (by rw [lk1.has]; exact hhas) (by rw [lk1.obj]; exact hi) (j := 1) (by rw [lk1.obj]; omega) 0
            have hs := h.ok.rf_set (x := x) (z := (k : Int)) (by rw [h.like.has]; exact hx) hhas1 (by rw [h.like.obj]; exact hi) (j := 0) (by rw [hobj]; omega) 0
            rw [lk1.obj] at hs2
            rw [hobj] at hs
            rw [hs2, hs, h.rf x hx i hi]
            by_cases hxk : x = (k : Int)
            · subst hxk
              rw [hl2]
              by_cases hi1 : i = 1
              · subst hi1
                rw [if_pos ⟨rfl, rfl⟩, if_pos ⟨by omega, hct, by omega⟩]
              · rw [if_neg (fun hh => hi1 hh.2)]
                by_cases hi0 : i = 0
                · subst hi0
                  rw [if_pos ⟨rfl, rfl⟩, if_pos ⟨by omega, hct, by omega⟩]
                · rw [if_neg (fun hh => hi0 hh.2), if_neg (fun hh => hno hh.1), if_neg (fun hh => by omega)]
            · rw [if_neg (fun hh => hxk hh.1), if_neg (fun hh => hxk hh.1)]
              by_cases hh : x < (k : Int) ∧ t.cuts kb x = true ∧ i < looseN (t.obj x).k
              · rw [if_pos hh, if_pos ⟨by omega, hh.2⟩]
              · rw [if_neg hh, if_neg (fun h2 => hh ⟨by omega, h2.2⟩)]
          · have hs2 := ok1.dw_set (x := x) (z := (k : Int)) (by rw [lk1.has]; exact hx) (by rw [lk1.has]; exact hhas) (by rw [lk1.obj]; exact hi) (j := 1) (by rw [lk1.obj]; omega) 0
            have hs := h.ok.dw_set (x := x) (z := (k : Int)) (by rw [h.like.has]; exact hx) hhas1 (by rw [h.like.obj]; exact hi) (j := 0) (by rw [hobj]; omega) 0
            rw [lk1.obj] at hs2
            rw [hobj] at hs
            rw [hs2, hs]
            exact h.dw x hx i hi
          · show p.2 + _ = _
            rw [filt_succ, h.cnt]
            have : t.told kb ((k : Nat) : Int) = ((t.rf (k : Int) 0 != 0) || (t.rf (k : Int) 1 != 0)) := by unfold MT.told; rw [hct, hq]; simp
            rw [this]
    · have e : p.1.clr kb (k : Int) = (p.1, false) := by
        unfold MT.clr
        rw [hobj, if_neg hkind]
      rw [e]
      refine nothing ?_
      rw [hcut]
      have a1 : ¬ (t.obj (k : Int)).k = 1 := fun h => hkind (.inl h)
      have a2 : ¬ (t.obj (k : Int)).k = 2 := fun h => hkind (.inr h)
      simp [a1, a2]
  · rw [if_neg hkb]
    have hc : t.cuts kb (k : Int) = false := by
      unfold MT.cuts
      rw [Int.toNat_natCast]
      have : kb.getD k false = false := by simpa using hkb
      rw [this]
      rfl
    refine ⟨h.like, h.ok, fun x hx i hi => ?_, h.dw, ?_⟩
    · rw [h.rf x hx i hi]
      by_cases hxk : x = (k : Int)
      · subst hxk
        rw [if_neg (fun hh => by rw [hc] at hh; cases hh.2.1), if_neg (fun hh => by rw [hc] at hh; cases hh.2.1)]
      · by_cases hh : x < (k : Int) ∧ t.cuts kb x = true ∧ i < looseN (t.obj x).k
        · rw [if_pos hh, if_pos ⟨by omega, hh.2⟩]
        · rw [if_neg hh, if_neg (fun h2 => hh ⟨by omega, h2.2⟩)]
    · rw [filt_succ, h.cnt]
      have : t.told kb ((k : Nat) : Int) = false := by unfold MT.told; rw [hc]; rfl
      rw [this]
      simp
theorem CSt.clrs {t : MT} (ok : t.Ok) {kb : List Bool} (hk0 : kb.getD 0 false = false) {k : Nat} (hk : k ≤ t.ob.length + 1) : CSt t kb k (t.clrs kb k) := by
  induction k with
  | zero => exact .zero ok kb
  | succ k ih =>
    have := (ih (by omega)).next ok (by omega) hk0
    simp only [MT.clrs]
    exact this
theorem MT.Ok.kb_zero {t : MT} (ok : t.Ok) : t.kb.getD 0 false = false := by
  cases h : t.kb.getD 0 false
  · rfl
  · have := ((ok.kb_iff 0).1 h).pos ok; simp at this
theorem MT.Ok.collects {t : MT} (ok : t.Ok) : CSt t t.kb (t.ob.length + 1) t.collect := CSt.clrs ok ok.kb_zero (Nat.le_refl _)
end Go.Proofs.YtbiompmklijgoaaDoor
