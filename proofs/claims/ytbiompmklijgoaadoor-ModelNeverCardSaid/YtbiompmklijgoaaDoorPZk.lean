/-
  What is kept, where a reference, a root, or nothing that keeps is changed. Plain mathematics. Conditions: those that stand in each theorem.
-/
import Derived.Test.YtbiompmklijgoaaDoorPGS
import Derived.Test.YtbiompmklijgoaaDoorPGF
namespace Go.Proofs.YtbiompmklijgoaaDoor
set_option linter.unusedVariables false
set_option linter.unusedSimpArgs false
open Go.RowKit Go.Deep Go.Maps

theorem MT.K.mono {t t' : MT} (hr : ∀ x ∈ t.roots, x ≠ 0 → t'.K x) (hs : ∀ x y, t.K x → y ∈ t.strong x → y ≠ 0 → y ∈ t'.strong x)
    (he : ∀ x, t.K x → (t.obj x).k = 2 → t.K (t.rf x 0) → t.rf x 1 ≠ 0 → (t'.obj x).k = 2 ∧ t'.rf x 0 = t.rf x 0 ∧ t'.rf x 1 = t.rf x 1) {x : Int} (h : t.K x) : t'.K x := by
  induction h with
  | root h h0 => exact hr _ h h0
  | strong h hy h0 ih => exact .strong ih (hs _ _ h hy h0) h0
  | eph h h2 hk h0 ih ihk =>
    obtain ⟨e1, e2, e3⟩ := he _ h h2 hk h0
    rw [← e3]
    exact .eph ih e1 (by rw [e2]; exact ihk) (by rw [e3]; exact h0)
theorem MT.Ok.kept_mem {t : MT} (ok : t.Ok) (x : Int) : x ∈ t.kept ↔ t.K x := by
  unfold MT.kept
  rw [trues_mem]
  constructor
  · rintro ⟨i, rfl, _, h⟩
    exact (ok.kb_iff i).1 h
  · intro h
    have hp := h.pos ok
    obtain ⟨i, rfl⟩ : ∃ i : Nat, x = (i : Int) := ⟨x.toNat, by omega⟩
    exact ⟨i, rfl, by omega, (ok.kb_iff i).2 h⟩
/-- Where a reference lies. -/
theorem MT.Ok.rf_set {t : MT} (ok : t.Ok) {x z : Int} (hx : t.has x = true) (hz : t.has z = true) {i j : Nat} (hi : i < (t.obj x).r) (hj : j < (t.obj z).r) (y : Int) :
    (t.setW ((t.obj z).f + j) y).rf x i = if x = z ∧ i = j then y else t.rf x i := by
  show (t.ws.set ((t.obj z).f + j) y).getD ((t.obj x).f + i) 0 = _
  rw [getD_set]
  obtain ⟨a, rfl, ha, hoa⟩ := MT.has_nat hx
  obtain ⟨c, rfl, hc, hoc⟩ := MT.has_nat hz
  have hfit := ok.fit a ha
  rw [hoa] at hi ⊢
  rw [hoc] at hj ⊢
  by_cases h : (t.ob.getD c OB.zero).f + j = (t.ob.getD a OB.zero).f + i
  · obtain ⟨e1, e2⟩ := ok.lone hc (by omega : j < (t.ob.getD c OB.zero).r + (t.ob.getD c OB.zero).d) ha (by omega : i < (t.ob.getD a OB.zero).r + (t.ob.getD a OB.zero).d) h
    subst e1 e2
    rw [if_pos ⟨rfl, by omega⟩, if_pos ⟨rfl, rfl⟩]
  · rw [if_neg (fun hh => h hh.1), if_neg]
    · unfold MT.rf; rw [hoa]
    · rintro ⟨e1, e2⟩
      have : a = c := by omega
      subst this e2
      exact h rfl
theorem MT.Ok.dw_set {t : MT} (ok : t.Ok) {x z : Int} (hx : t.has x = true) (hz : t.has z = true) {i j : Nat} (hi : i < (t.obj x).d) (hj : j < (t.obj z).r) (y : Int) :
    (t.setW ((t.obj z).f + j) y).dw x i = t.dw x i := by
  show (t.ws.set ((t.obj z).f + j) y).getD ((t.obj x).f + (t.obj x).r + i) 0 = _
  rw [getD_set, if_neg]
  · rfl
  · rintro ⟨h, _⟩
    obtain ⟨a, rfl, ha, hoa⟩ := MT.has_nat hx
    obtain ⟨c, rfl, hc, hoc⟩ := MT.has_nat hz
    rw [hoa] at hi h
    rw [hoc] at hj h
    obtain ⟨e1, e2⟩ := ok.lone hc (by omega : j < (t.ob.getD c OB.zero).r + (t.ob.getD c OB.zero).d) ha (by omega : (t.ob.getD a OB.zero).r + i < (t.ob.getD a OB.zero).r + (t.ob.getD a OB.zero).d) (by omega)
    subst e1
    omega
theorem MT.K.has {t : MT} (ok : t.Ok) {x : Int} (h : t.K x) : t.has x = true := decide_eq_true (h.pos ok)
theorem mem_refl {t : MT} {x y : Int} : y ∈ t.refl x ↔ ∃ i, i < (t.obj x).r ∧ t.rf x i = y := by
  unfold MT.refl
  simp only [List.mem_map, List.mem_range]
theorem mem_strong {t : MT} {x y : Int} : y ∈ t.strong x ↔ ∃ i, looseN (t.obj x).k ≤ i ∧ i < (t.obj x).r ∧ t.rf x i = y := by
  unfold MT.strong MT.refl
  rw [List.mem_iff_getElem]
  constructor
  · rintro ⟨i, hi, e⟩
    simp at hi e
    exact ⟨looseN (t.obj x).k + i, by omega, by omega, e⟩
  · rintro ⟨i, h1, h2, e⟩
    refine ⟨i - looseN (t.obj x).k, by simp; omega, ?_⟩
    simp
    rw [show looseN (t.obj x).k + (i - looseN (t.obj x).k) = i by omega]
    exact e
/-- A further reference of a plain object. -/
theorem MT.Ok.more_ref {t : MT} (ok : t.Ok) {z y : Int} {j : Int} (hz : (t.obj z).k = 0) (h0 : t.refV z j = 0) {x : Int} (h : t.K x) : (t.srM z j y).K x := by
  unfold MT.srM
  by_cases he : t.srE z j y = 0
  · rw [if_pos he]
    unfold MT.srE at he
    have hhz : t.has z = true := by
      cases hh : t.has z
      · rw [hh] at he; cases he
      · rfl
    rw [hhz] at he
    have hR : t.isR z j = true := by
      cases hh : t.isR z j
      · rw [hh] at he; cases he
      · rfl
    have hj := of_decide_eq_true hR
    obtain ⟨i, rfl⟩ : ∃ i : Nat, j = (i : Int) := ⟨j.toNat, by omega⟩
    rw [Int.toNat_natCast]
    have hi : i < (t.obj z).r := by omega
    rw [(MT.refV_at hhz hi).1] at h0
    refine MT.K.mono (t := t) (t' := t.setW ((t.obj z).f + i) y) (fun x hx h0 => .root hx h0) (fun x y' hk hy hy0 => ?_) (fun x hk h2 _ _ => ?_) h
    · obtain ⟨a, h1, h2, e⟩ := mem_strong.1 hy
      refine mem_strong.2 ⟨a, h1, h2, ?_⟩
      rw [ok.rf_set (hk.has ok) hhz h2 hi, if_neg, e]
      rintro ⟨rfl, rfl⟩
      exact hy0 (e.symm.trans h0)
    · have hr := ok.eph2 (hk.pos ok) h2
      have hne : x ≠ z := by
        rintro rfl
        omega
      refine ⟨h2, ?_, ?_⟩
      · rw [ok.rf_set (hk.has ok) hhz (by omega) hi, if_neg (fun hh => hne hh.1)]
      · rw [ok.rf_set (hk.has ok) hhz (by omega) hi, if_neg (fun hh => hne hh.1)]
  · rw [if_neg he]
    exact h
/-- A further root. -/
theorem MT.more_root {t : MT} (y : Int) {x : Int} (h : t.K x) : (t.pushM y).K x := by
  unfold MT.pushM
  split
  · refine MT.K.mono (t := t) (t' := { t with qu := t.qu ++ [y] }) (fun x hx h0 => .root ?_ h0) (fun x y hk hy h0 => hy) (fun x hk h2 _ _ => ⟨h2, rfl, rfl⟩) h
    show x ∈ t.sl ++ t.gl ++ (t.qu ++ [y])
    unfold MT.roots at hx
    rw [← List.append_assoc]
    exact List.mem_append_left _ hx
  · exact h
/-- Marks. -/
def marks (n : Nat) (zs : List Int) : List Bool := zs.foldl (fun ks z => ks.set z.toNat true) (List.replicate n false)
theorem marks_aux (zs : List Int) : ∀ (ks : List Bool), (zs.foldl (fun ks z => ks.set z.toNat true) ks).length = ks.length ∧ ∀ i, i < ks.length → ((zs.foldl (fun ks z => ks.set z.toNat true) ks).getD i false = true ↔ ks.getD i false = true ∨ ∃ z ∈ zs, z.toNat = i) := by
  induction zs with
  | nil => exact fun ks => ⟨rfl, fun i hi => by simp⟩
  | cons z zs ih =>
    intro ks
    simp only [List.foldl_cons]
    obtain ⟨h1, h2⟩ := ih (ks.set z.toNat true)
    refine ⟨by rw [h1]; simp, fun i hi => ?_⟩
    rw [h2 i (by simpa using hi)]
    by_cases hz : z.toNat < ks.length
    · rw [getD_setB _ _ _ hz]
      by_cases e : z.toNat = i
      · simp [e]
      · rw [if_neg e]
        simp [e]
    · rw [List.set_eq_of_length_le (by omega)]
      simp only [List.mem_cons, exists_eq_or_imp]
      constructor
      · rintro (h | h)
        · exact .inl h
        · exact .inr (.inr h)
      · rintro (h | h | h)
        · exact .inl h
        · omega
        · exact .inr h
theorem marks_len (n : Nat) (zs : List Int) : (marks n zs).length = n := by
  unfold marks
  rw [(marks_aux zs _).1]
  simp
theorem marks_at {n : Nat} {zs : List Int} {i : Nat} (hi : i < n) (h : (i : Int) ∈ zs) : (marks n zs).getD i false = true := by
  unfold marks
  exact ((marks_aux zs _).2 i (by simpa using hi)).2 (.inr ⟨_, h, by simp⟩)
theorem marks_iff {n : Nat} {zs : List Int} (hz : ∀ z ∈ zs, 0 ≤ z) {i : Nat} (hi : i < n) : (marks n zs).getD i false = true ↔ (i : Int) ∈ zs := by
  refine ⟨fun h => ?_, marks_at hi⟩
  unfold marks at h
  rcases ((marks_aux zs _).2 i (by simpa using hi)).1 h with h | ⟨z, hm, e⟩
  · simp [List.getD_eq_getElem?_getD, hi] at h
  · have := hz z hm
    have : z = (i : Int) := by omega
    exact this ▸ hm
theorem marks_snoc (n : Nat) (zs : List Int) (k : Nat) (hk : k < zs.length) : marks n (zs.take (k + 1)) = (marks n (zs.take k)).set (zs.getD k 0).toNat true := by
  unfold marks
  rw [take_snocI hk, List.foldl_append]
  rfl
end Go.Proofs.YtbiompmklijgoaaDoor
