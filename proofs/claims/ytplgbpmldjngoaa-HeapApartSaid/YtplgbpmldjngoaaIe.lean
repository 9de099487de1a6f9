/-
  The contract of package heap's Lines. Conditions: those that stand in each theorem.
-/
import Derived.Test.YtplgbpmldjngoaaHu
namespace Go.Proofs.Ytplgbpmldjngoaa
set_option linter.unusedVariables false
set_option linter.unusedSimpArgs false
open Go.RowKit Go.Deep Go.Maps

def lcells (L : List Bool) : List Value := L.map fun x => .bool x
theorem lcells_get {L : List Bool} {i : Nat} (hi : i < L.length) : (lcells L).toArray[i]? = some (.bool (L.getD i false)) := by
  simp [lcells, hi]
theorem lcells_set (L : List Bool) (i : Nat) (v : Bool) : (lcells L).toArray.setIfInBounds i (.bool v) = (lcells (L.set i v)).toArray := by
  simp [lcells, List.map_set]
/-- n lines from a on are occupied. -/
def lnS (L : List Bool) (a : Nat) : Nat → List Bool
  | 0 => L
  | n + 1 => (lnS L a n).set (a + n) true
@[simp] theorem lnS_length (L : List Bool) (a n : Nat) : (lnS L a n).length = L.length := by
  induction n with
  | zero => rfl
  | succ n ih => simp [lnS, ih]
theorem lnS_get (L : List Bool) (a n j : Nat) (h : a + n ≤ L.length) : (lnS L a n).getD j false = if a ≤ j ∧ j < a + n then true else L.getD j false := by
  induction n with
  | zero => rw [if_neg (by omega)]; rfl
  | succ n ih =>
    unfold lnS
    rw [List.getD_eq_getElem?_getD, List.getElem?_set]
    by_cases h1 : a + n = j
    · rw [if_pos h1, if_pos (by simp; omega), if_pos (by omega)]; rfl
    · rw [if_neg h1, ← List.getD_eq_getElem?_getD, ih (by omega)]
      by_cases h2 : a ≤ j ∧ j < a + n
      · rw [if_pos h2, if_pos (by omega)]
      · rw [if_neg h2, if_neg (by omega)]
def HM.lnN (m : HM) (zs : List Int) : Nat → List Bool
  | 0 => List.replicate 8 false
  | j + 1 => lnS (m.lnN zs j) ((zs.getD j 0).toNat % 64 / 8) (((zs.getD j 0).toNat % 64 + m.wdAt (zs.getD j 0).toNat - 1) / 8 + 1 - (zs.getD j 0).toNat % 64 / 8)
@[simp] theorem lnN_length (m : HM) (zs : List Int) (j : Nat) : (m.lnN zs j).length = 8 := by
  induction j with
  | zero => rfl
  | succ j ih => simp [HM.lnN, ih]
def HM.lnL (m : HM) (k : Nat) : List Bool := m.lnN (m.objL (k : Int)) (m.objL (k : Int)).length
section
variable {w w' : World} {b : HB} {r : RM} {m : HM} {q : Nat}
theorem used_fit (I : m.Inv) {a k : Nat} {o : Ob} (ho : m.ob a = some o) (hk : a / 64 = k) (hst : m.st k = 1) : o.wd ≤ 32 ∧ a % 64 + o.wd ≤ 64 := by
  have hs := I.lie _ _ ho
  unfold suitB at hs
  rw [hk] at hs
  unfold HM.st at hst
  split at hs
  · have := of_decide_eq_true hs
    omega
  · have := of_decide_eq_true hs
    omega
theorem lnN_get (I : m.Inv) {k : Nat} (hk : k < m.bl.length) (hst : m.st k = 1) : ∀ j, j ≤ (m.objL (k : Int)).length → ∀ i, i < 8 → ((m.lnN (m.objL (k : Int)) j).getD i false = true ↔
    ∃ y a o, y < j ∧ (m.objL (k : Int)).getD y 0 = ((a : Nat) : Int) ∧ m.ob a = some o ∧ a % 64 / 8 ≤ i ∧ i ≤ (a % 64 + o.wd - 1) / 8) := by
  intro j
  induction j with
  | zero =>
    intro _ i hi
    constructor
    · intro h
      have : (m.lnN (m.objL (k : Int)) 0).getD i false = false := by
        show (List.replicate 8 false).getD i false = false
        rw [List.getD_eq_getElem?_getD, List.getElem?_replicate]; split <;> rfl
      rw [this] at h; cases h
    · rintro ⟨y, _, _, h, _⟩; omega
  | succ j ih =>
    intro hj i hi
    obtain ⟨a, o, ha, ho, h1, h2⟩ := objL_at (i := j) hk (by omega)
    obtain ⟨f1, f2⟩ := used_fit I ho (k := k) (by omega) hst
    have hw := (I.ok _ _ ho).wd_bd
    have e : m.lnN (m.objL (k : Int)) (j + 1) = lnS (m.lnN (m.objL (k : Int)) j) (a % 64 / 8) ((a % 64 + o.wd - 1) / 8 + 1 - a % 64 / 8) := by
      show lnS _ _ _ = _
      rw [ha, Int.toNat_natCast]
      unfold HM.wdAt
      rw [ho]
    rw [e, lnS_get _ _ _ _ (by simp; omega)]
    by_cases hc : a % 64 / 8 ≤ i ∧ i < a % 64 / 8 + ((a % 64 + o.wd - 1) / 8 + 1 - a % 64 / 8)
    · rw [if_pos hc]
      exact ⟨fun _ => ⟨j, a, o, by omega, ha, ho, hc.1, by omega⟩, fun _ => rfl⟩
    · rw [if_neg hc, ih (by omega) i hi]
      constructor
      · rintro ⟨y, a', o', hy, r⟩
        exact ⟨y, a', o', by omega, r⟩
      · rintro ⟨y, a', o', hy, e1, e2, e3, e4⟩
        by_cases hyj : y = j
        · subst hyj
          rw [ha] at e1
          obtain rfl : a = a' := by omega
          rw [ho] at e2
          cases e2
          omega
        · exact ⟨y, a', o', by omega, e1, e2, e3, e4⟩
/-- A line is occupied exactly if a word of an object is in it. -/
theorem lnL_iff (I : m.Inv) {k i : Nat} (hk : k < m.bl.length) (hst : m.st k = 1) (hi : i < 8) : (m.lnL k).getD i false = true ↔ ∃ x, x < 8 ∧ m.own (k * 64 + i * 8 + x) ≠ 0 := by
  unfold HM.lnL
  rw [lnN_get I hk hst _ (Nat.le_refl _) i hi]
  constructor
  · rintro ⟨y, a, o, hy, ha, ho, h1, h2⟩
    obtain ⟨a', o', ha', ho', g1, g2⟩ := objL_at hk hy
    rw [ha] at ha'
    obtain rfl : a = a' := by omega
    have hw := (I.ok _ _ ho).wd_bd
    by_cases hc : a % 64 / 8 = i
    · refine ⟨a % 64 % 8, by omega, ?_⟩
      rw [own_cov I ho (by omega) (by omega)]
      have := I.lo ho
      omega
    · refine ⟨0, by omega, ?_⟩
      rw [own_cov I ho (by omega) (by omega)]
      have := I.lo ho
      omega
  · rintro ⟨x, hx, hne⟩
    rcases own_cases I (k * 64 + i * 8 + x) with ⟨a, o, ho, h1, h2, h3⟩ | ⟨_, h4⟩
    · have hs := I.lie _ _ ho
      have hak : a / 64 = k := by
        have hw := (I.ok _ _ ho).wd_bd
        have hsd := suit_bd hs
        unfold suitB at hs
        split at hs
        · have := of_decide_eq_true hs
          omega
        · have hq := of_decide_eq_true hs
          obtain ⟨q1, q2, q3⟩ := hq
          have hg := (grpEnd_iff m.bl (a / 64) _ hsd.1).1 rfl
          rcases Nat.lt_or_ge (a / 64) k with hlt | hge
          · have h3' := hg.2.2.1 k (by omega) (by omega)
            unfold HM.st at hst
            omega
          · omega
      obtain ⟨f1, f2⟩ := used_fit I ho hak hst
      have hev := I.even _ _ ho
      have hw := (I.ok _ _ ho).wd_bd
      have hb : inB m.bl.length (k : Int) = true := decide_eq_true ⟨by omega, by omega⟩
      have e : m.objL (k : Int) = fpL m (k * 32) 32 := by simp [HM.objL, hb]
      have hm : ((a : Nat) : Int) ∈ m.objL (k : Int) := by
        rw [e]
        exact (fpL_mem _ _ _ _).2 ⟨a / 2 - k * 32, by omega, by congr 1; omega, by rw [show 2 * (k * 32 + (a / 2 - k * 32)) = a by omega, ho]; rfl⟩
      obtain ⟨y, hy, hg⟩ := List.mem_iff_getElem.1 hm
      refine ⟨y, a, o, hy, ?_, ho, by omega, by omega⟩
      rw [List.getD_eq_getElem?_getD, List.getElem?_eq_getElem hy, hg]
      rfl
    · exact absurd h4 hne
end
end Go.Proofs.Ytplgbpmldjngoaa
