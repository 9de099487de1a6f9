/-
  After Collect just the same is kept, nothing loose leads to what is not, and a second one changes nothing: plain mathematics. Conditions: those that stand in each theorem.
-/
import Derived.Test.YtbiompmklijgoaaDoorPZm
namespace Go.Proofs.YtbiompmklijgoaaDoor
set_option linter.unusedVariables false
set_option linter.unusedSimpArgs false
open Go.RowKit Go.Deep Go.Maps

theorem looseN_le (k : Nat) : looseN k ≤ 2 := by unfold looseN; split <;> (try split) <;> omega
theorem MT.Ok.cut_key {t : MT} (ok : t.Ok) {x : Int} (hx : t.K x) (h : t.K (t.rf x 0)) : t.cuts t.kb x = false := by
  unfold MT.cuts
  have hp := h.pos ok
  have : t.kb.getD (t.rf x 0).toNat false = true := (ok.kb_iff _).2 (by rw [Int.toNat_of_nonneg (by omega)]; exact h)
  rw [this]
  simp
theorem MT.Ok.col_rf {t : MT} (ok : t.Ok) {x : Int} (hx : t.has x = true) {i : Nat} (hi : i < (t.obj x).r) : t.collect.1.rf x i = if t.cuts t.kb x = true ∧ i < looseN (t.obj x).k then 0 else t.rf x i := by
  rw [ok.collects.rf x hx i hi]
  have hp := of_decide_eq_true hx
  by_cases h : t.cuts t.kb x = true ∧ i < looseN (t.obj x).k
  · rw [if_pos h, if_pos ⟨by omega, h⟩]
  · rw [if_neg h, if_neg (fun hh => h hh.2)]
theorem MT.Ok.col_K {t : MT} (ok : t.Ok) (x : Int) : t.collect.1.K x ↔ t.K x := by
  have C := ok.collects
  have hobj := fun y => C.like.obj y
  have hst : ∀ y z, t.has y = true → (z ∈ t.collect.1.strong y ↔ z ∈ t.strong y) := by
    intro y z hy
    rw [mem_strong, mem_strong, hobj]
    constructor
    · rintro ⟨i, h1, h2, e⟩
      refine ⟨i, h1, h2, ?_⟩
      rw [ok.col_rf hy h2, if_neg (fun hh => by omega)] at e
      exact e
    · rintro ⟨i, h1, h2, e⟩
      refine ⟨i, h1, h2, ?_⟩
      rw [ok.col_rf hy h2, if_neg (fun hh => by omega)]
      exact e
  constructor
  · intro h
    have hhas : ∀ {y}, t.collect.1.K y → t.has y = true := fun {y} hy => by rw [← C.like.has]; exact hy.has C.ok
    refine MT.K.mono (t := t.collect.1) (t' := t) (fun y hy h0 => .root (by rw [← C.like.roots]; exact hy) h0) (fun y z hk hy h0 => (hst y z (hhas hk)).1 hy) (fun y hk h2 hkey h0 => ?_) h
    rw [hobj] at h2
    have hr := ok.eph2 (of_decide_eq_true (hhas hk)) h2
    have hl : looseN (t.obj y).k = 2 := by rw [h2]; rfl
    by_cases hc : t.cuts t.kb y = true
    · rw [ok.col_rf (hhas hk) (by omega), if_pos ⟨hc, by omega⟩] at h0
      exact absurd rfl h0
    · refine ⟨h2, ?_, ?_⟩
      · rw [ok.col_rf (hhas hk) (by omega), if_neg (fun hh => hc hh.1)]
      · rw [ok.col_rf (hhas hk) (by omega), if_neg (fun hh => hc hh.1)]
  · intro h
    refine MT.K.mono (t := t) (t' := t.collect.1) (fun y hy h0 => .root (by rw [C.like.roots]; exact hy) h0) (fun y z hk hy h0 => (hst y z (hk.has ok)).2 hy) (fun y hk h2 hkey h0 => ?_) h
    have hr := ok.eph2 (hk.pos ok) h2
    have hc := ok.cut_key hk hkey
    refine ⟨by rw [hobj]; exact h2, ?_, ?_⟩
    · rw [ok.col_rf (hk.has ok) (by omega), if_neg (fun hh => by rw [hc] at hh; cases hh.1)]
    · rw [ok.col_rf (hk.has ok) (by omega), if_neg (fun hh => by rw [hc] at hh; cases hh.1)]
theorem MT.Ok.col_kb {t : MT} (ok : t.Ok) : t.collect.1.kb = t.kb := by
  have C := ok.collects
  apply List.ext_getElem
  · rw [C.ok.kb_len, ok.kb_len, C.like.ob]
  · intro i h1 h2
    have a1 := C.ok.kb_iff i
    have a2 := ok.kb_iff i
    rw [List.getD_eq_getElem?_getD, List.getElem?_eq_getElem h1] at a1
    rw [List.getD_eq_getElem?_getD, List.getElem?_eq_getElem h2] at a2
    have a3 := a1.trans ((ok.col_K _).trans a2.symm)
    simp only [Option.getD_some] at a3
    cases hb1 : t.collect.1.kb[i] <;> cases hb2 : t.kb[i] <;> simp_all
theorem MT.Ok.col_kept {t : MT} (ok : t.Ok) : t.collect.1.kept = t.kept := by
  unfold MT.kept
  rw [ok.col_kb, ok.collects.like.ob]
/-- Nothing loose leads to what is not kept. -/
theorem MT.Ok.col_clean {t : MT} (ok : t.Ok) {x : Int} (hx : t.K x) (hk : (t.obj x).k = 1 ∨ (t.obj x).k = 2) :
    (t.collect.1.rf x 0 ≠ 0 → t.K (t.collect.1.rf x 0)) ∧ ((t.obj x).k = 2 → t.collect.1.rf x 0 = 0 → t.collect.1.rf x 1 = 0) := by
  have hhas := hx.has ok
  have hr : looseN (t.obj x).k ≤ (t.obj x).r ∧ 0 < looseN (t.obj x).k := by
    obtain ⟨a, e, ha, hoa⟩ := MT.has_nat hhas
    have := of_decide_eq_true (ok.sh a ha)
    rw [hoa] at hk ⊢
    rcases hk with hq | hq
    · rw [hq]
      exact ⟨show 1 ≤ _ by omega, show 0 < 1 by omega⟩
    · rw [hq]
      exact ⟨show 2 ≤ _ by omega, show 0 < 2 by omega⟩
  have p0 := ok.rfs (of_decide_eq_true hhas) (i := 0) (by omega)
  have hkx : t.kb.getD x.toNat false = true := (ok.kb_iff _).2 (by rw [Int.toNat_of_nonneg (by have := hx.pos ok; omega)]; exact hx)
  by_cases hc : t.cuts t.kb x = true
  · rw [ok.col_rf hhas (by omega : 0 < (t.obj x).r), if_pos ⟨hc, by omega⟩]
    refine ⟨fun h => absurd rfl h, fun h2 _ => ?_⟩
    have hl : looseN (t.obj x).k = 2 := by rw [h2]; rfl
    rw [ok.col_rf hhas (by omega), if_pos ⟨hc, by omega⟩]
  · have hkey : t.K (t.rf x 0) := by
      have : t.kb.getD (t.rf x 0).toNat false = true := by
        cases hh : t.kb.getD (t.rf x 0).toNat false
        · exfalso
          apply hc
          unfold MT.cuts
          rw [hkx, hh]
          rcases hk with hq | hq <;> rw [hq] <;> rfl
        · rfl
      have := (ok.kb_iff _).1 this
      rw [Int.toNat_of_nonneg p0.1] at this
      exact this
    rw [ok.col_rf hhas (by omega : 0 < (t.obj x).r), if_neg (fun hh => hc hh.1)]
    refine ⟨fun _ => hkey, fun _ h0 => ?_⟩
    have := hkey.pos ok
    omega
/-- A second Collect. -/
theorem MT.Ok.col_again {t : MT} (ok : t.Ok) : t.collect.1.collect.2 = 0 ∧ ∀ x, t.has x = true → ∀ i, i < (t.obj x).r → t.collect.1.collect.1.rf x i = t.collect.1.rf x i := by
  have C := ok.collects
  have C2 := C.ok.collects
  have key : ∀ x, t.has x = true → t.collect.1.cuts t.collect.1.kb x = true → ((t.obj x).k = 1 ∨ (t.obj x).k = 2) ∧ t.collect.1.rf x 0 = 0 ∧ ((t.obj x).k = 2 → t.collect.1.rf x 1 = 0) := by
    intro x hx hc
    unfold MT.cuts at hc
    rw [C.like.obj] at hc
    simp only [Bool.and_eq_true, Bool.or_eq_true, decide_eq_true_eq, Bool.not_eq_true'] at hc
    obtain ⟨⟨h1, h2⟩, h3⟩ := hc
    have hp := of_decide_eq_true hx
    have hK : t.K x := (ok.col_K x).1 (by have := (C.ok.kb_iff x.toNat).1 h1; rw [Int.toNat_of_nonneg (by omega)] at this; exact this)
    obtain ⟨a1, a2⟩ := ok.col_clean hK h2
    have h0 : t.collect.1.rf x 0 = 0 := by
      by_cases hz : t.collect.1.rf x 0 = 0
      · exact hz
      · exfalso
        have hk := a1 hz
        have := (C.ok.kb_iff (t.collect.1.rf x 0).toNat).2 (by
          rw [Int.toNat_of_nonneg (by have := hk.pos ok; omega)]
          exact (ok.col_K _).2 hk)
        rw [this] at h3
        cases h3
    exact ⟨h2, h0, fun hq => a2 hq h0⟩
  refine ⟨?_, fun x hx i hi => ?_⟩
  · rw [C2.cnt]
    have : (List.range (t.collect.1.ob.length + 1)).filter (fun i : Nat => t.collect.1.told t.collect.1.kb (i : Int)) = [] := by
      rw [List.filter_eq_nil_iff]
      intro i hi htold
      unfold MT.told at htold
      rw [Bool.and_eq_true] at htold
      obtain ⟨hc, ho⟩ := htold
      rw [List.mem_range] at hi
      have hi0 : i ≠ 0 := by
        rintro rfl
        unfold MT.cuts at hc
        rw [show ((0 : Nat) : Int).toNat = 0 from rfl, C.ok.kb_zero] at hc
        cases hc
      have hx : t.has (i : Int) = true := decide_eq_true ⟨by omega, by rw [C.like.ob] at hi; omega⟩
      obtain ⟨_, h0, h1⟩ := key _ hx hc
      rw [C.like.obj, h0] at ho
      by_cases hq : (t.obj (i : Int)).k = 2
      · rw [h1 hq] at ho; simp at ho
      · simp [hq] at ho
    rw [this]
    rfl
  · rw [C.ok.col_rf (by rw [C.like.has]; exact hx) (by rw [C.like.obj]; exact hi), C.like.obj]
    by_cases hc : t.collect.1.cuts t.collect.1.kb x = true ∧ i < looseN (t.obj x).k
    · rw [if_pos hc]
      obtain ⟨hk, h0, h1⟩ := key x hx hc.1
      rcases hk with hq | hq
      · have : looseN (t.obj x).k = 1 := by rw [hq]; rfl
        have hi0 : i = 0 := by omega
        rw [hi0, h0]
      · have : looseN (t.obj x).k = 2 := by rw [hq]; rfl
        have hi0 : i = 0 ∨ i = 1 := by omega
        rcases hi0 with hi0 | hi0
        · rw [hi0, h0]
        · rw [hi0, h1 hq]
    · rw [if_neg hc]
theorem cont_same {t t' : MT} (lk : t.Like t') {x : Int} (hr : ∀ i, i < (t.obj x).r → t'.rf x i = t.rf x i) (hd : ∀ i, i < (t.obj x).d → t'.dw x i = t.dw x i) : t'.cont x = t.cont x := by
  unfold MT.cont MT.refl MT.datl
  rw [lk.obj]
  have e1 : (List.range (t.obj x).r).map (t'.rf x) = (List.range (t.obj x).r).map (t.rf x) := List.map_congr_left (fun i hi => hr i (List.mem_range.1 hi))
  have e2 : (List.range (t.obj x).d).map (t'.dw x) = (List.range (t.obj x).d).map (t.dw x) := List.map_congr_left (fun i hi => hd i (List.mem_range.1 hi))
  rw [e1, e2]
theorem state_same {t t' : MT} (lk : t.Like t') (hr : ∀ x, t.has x = true → ∀ i, i < (t.obj x).r → t'.rf x i = t.rf x i) (hd : ∀ x, t.has x = true → ∀ i, i < (t.obj x).d → t'.dw x i = t.dw x i) : t'.stateL = t.stateL := by
  unfold MT.stateL
  rw [lk.ob, lk.n, lk.roots]
  congr 1
  have : ∀ k, k ≤ t.ob.length → t'.conts k = t.conts k := by
    intro k
    induction k with
    | zero => intro _; rfl
    | succ k ih =>
      intro hk
      have hx : t.has ((k : Int) + 1) = true := decide_eq_true ⟨by omega, by omega⟩
      rw [MT.conts_snoc, MT.conts_snoc, ih (by omega), cont_same lk (hr _ hx) (hd _ hx)]
  exact this _ (Nat.le_refl _)
theorem cont_len_eq {t t' : MT} (lk : t.Like t') (x : Int) : (t'.cont x).length = (t.cont x).length := by
  unfold MT.cont MT.refl MT.datl
  rw [lk.obj]
  simp
theorem cont_rf {t t' : MT} (lk : t.Like t') {x : Int} (h : t'.cont x = t.cont x) {i : Nat} (hi : i < (t.obj x).r) : t'.rf x i = t.rf x i := by
  unfold MT.cont MT.refl MT.datl at h
  rw [lk.obj] at h
  rw [List.append_assoc, List.append_assoc] at h
  have h1 := List.append_cancel_left h
  have h2 := (List.append_inj h1 (by simp)).1
  have h3 := List.map_inj_left.1 h2 i (List.mem_range.2 hi)
  exact h3
theorem state_inj {t t' : MT} (lk : t.Like t') (h : t'.stateL = t.stateL) {x : Int} (hx : t.has x = true) {i : Nat} (hi : i < (t.obj x).r) : t'.rf x i = t.rf x i := by
  unfold MT.stateL at h
  rw [lk.ob, lk.n, lk.roots] at h
  have hc := List.append_cancel_left h
  have hl : ∀ k, (t'.conts k).length = (t.conts k).length := by
    intro k
    induction k with
    | zero => rfl
    | succ k ih => rw [MT.conts_snoc, MT.conts_snoc, List.length_append, List.length_append, ih, cont_len_eq lk]
  have hall : ∀ k, t'.conts k = t.conts k → ∀ j, j < k → t'.cont ((j : Int) + 1) = t.cont ((j : Int) + 1) := by
    intro k
    induction k with
    | zero => intro _ j hj; omega
    | succ k ih =>
      intro he j hj
      rw [MT.conts_snoc, MT.conts_snoc] at he
      obtain ⟨e1, e2⟩ := List.append_inj he (hl k)
      rcases Nat.lt_or_ge j k with h | h
      · exact ih e1 j h
      · obtain rfl : j = k := by omega
        exact e2
  have hp := of_decide_eq_true hx
  have := hall _ hc (x.toNat - 1) (by omega)
  rw [show ((x.toNat - 1 : Nat) : Int) + 1 = x by omega] at this
  exact cont_rf lk this hi
/-- Collect tells of no object exactly if it changes nothing. -/
theorem MT.Ok.col_zero {t : MT} (ok : t.Ok) : t.collect.2 = 0 ↔ t.collect.1.stateL = t.stateL := by
  have C := ok.collects
  rw [C.cnt]
  constructor
  · intro h0
    have hn : (List.range (t.ob.length + 1)).filter (fun i : Nat => t.told t.kb (i : Int)) = [] := List.length_eq_zero_iff.1 h0
    rw [List.filter_eq_nil_iff] at hn
    refine state_same C.like (fun x hx i hi => ?_) C.dw
    rw [ok.col_rf hx hi]
    by_cases hc : t.cuts t.kb x = true ∧ i < looseN (t.obj x).k
    · rw [if_pos hc]
      have hp := of_decide_eq_true hx
      have hnt := hn x.toNat (List.mem_range.2 (by omega))
      rw [show ((x.toNat : Nat) : Int) = x by omega] at hnt
      unfold MT.told at hnt
      rw [hc.1] at hnt
      simp only [Bool.true_and, Bool.or_eq_true, bne_iff_ne, ne_eq, Bool.and_eq_true, decide_eq_true_eq, not_or, not_and, Decidable.not_not] at hnt
      obtain ⟨a0, a1⟩ := hnt
      have hl := looseN_le (t.obj x).k
      by_cases hq : (t.obj x).k = 2
      · have hi2 : i = 0 ∨ i = 1 := by omega
        rcases hi2 with e | e
        · rw [e, a0]
        · rw [e, a1 hq]
      · have : looseN (t.obj x).k ≤ 1 := by unfold looseN; split <;> (try split) <;> omega
        have e : i = 0 := by omega
        rw [e, a0]
    · rw [if_neg hc]
  · intro he
    have hn : (List.range (t.ob.length + 1)).filter (fun i : Nat => t.told t.kb (i : Int)) = [] := by
      rw [List.filter_eq_nil_iff]
      intro i hi htold
      rw [List.mem_range] at hi
      unfold MT.told at htold
      rw [Bool.and_eq_true] at htold
      obtain ⟨hc, ho⟩ := htold
      have hi0 : i ≠ 0 := by
        rintro rfl
        unfold MT.cuts at hc
        rw [show ((0 : Nat) : Int).toNat = 0 from rfl, ok.kb_zero] at hc
        cases hc
      have hx : t.has (i : Int) = true := decide_eq_true ⟨by omega, by omega⟩
      have hkk : (t.obj (i : Int)).k = 1 ∨ (t.obj (i : Int)).k = 2 := by
        unfold MT.cuts at hc
        simp only [Bool.and_eq_true, Bool.or_eq_true, decide_eq_true_eq] at hc
        exact hc.1.2
      have hr : looseN (t.obj (i : Int)).k ≤ (t.obj (i : Int)).r ∧ 0 < looseN (t.obj (i : Int)).k := by
        obtain ⟨a, e, ha, hoa⟩ := MT.has_nat hx
        have := of_decide_eq_true (ok.sh a ha)
        rw [hoa] at hkk ⊢
        rcases hkk with hq | hq
        · rw [hq]
          exact ⟨show 1 ≤ _ by omega, show 0 < 1 by omega⟩
        · rw [hq]
          exact ⟨show 2 ≤ _ by omega, show 0 < 2 by omega⟩
      have e0 := state_inj C.like he hx (i := 0) (by omega)
      rw [ok.col_rf hx (by omega), if_pos ⟨hc, by omega⟩] at e0
      by_cases hq : (t.obj (i : Int)).k = 2
      · have hl : looseN (t.obj (i : Int)).k = 2 := by rw [hq]; rfl
        have e1 := state_inj C.like he hx (i := 1) (by omega)
        rw [ok.col_rf hx (by omega), if_pos ⟨hc, by omega⟩] at e1
        rw [← e0, ← e1] at ho
        simp at ho
      · rw [← e0] at ho
        simp [hq] at ho
    rw [hn]
    rfl
theorem MT.Ok.col_le {t : MT} (ok : t.Ok) : t.collect.2 ≤ t.kept.length := by
  rw [ok.collects.cnt]
  unfold MT.kept trues
  rw [List.length_map, ← List.countP_eq_length_filter, ← List.countP_eq_length_filter]
  refine List.countP_mono_left (fun i _ h => ?_)
  unfold MT.told MT.cuts at h
  rw [Int.toNat_natCast] at h
  simp only [Bool.and_eq_true] at h
  exact h.1.1.1
end Go.Proofs.YtbiompmklijgoaaDoor
