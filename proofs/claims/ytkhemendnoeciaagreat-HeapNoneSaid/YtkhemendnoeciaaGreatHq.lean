/-
  The contracts of package heap's withGap, Gaps, Release. Conditions: those that stand in each theorem.
-/
import Derived.Test.YtkhemendnoeciaaGreatHp
namespace Go.Proofs.YtkhemendnoeciaaGreat
set_option linter.unusedVariables false
set_option linter.unusedSimpArgs false
open Go.RowKit Go.Deep Go.Maps

def gapAdd (rs : List (Nat × Nat)) (f e : Nat) : List (Nat × Nat) := if f = e then rs else rs ++ [(f, e - f)]
theorem gapAdd_le (rs : List (Nat × Nat)) (f e : Nat) : (gapAdd rs f e).length ≤ rs.length + 1 := by unfold gapAdd; split <;> simp
def HM.wdAt (m : HM) (a : Nat) : Nat := match m.ob a with | some o => o.wd | none => 0
/-- The gaps before the first k objects, and where the last one of these ends. -/
def gpN (m : HM) (l : List Int) (at0 : Nat) : Nat → List (Nat × Nat) × Nat
  | 0 => ([], at0)
  | k + 1 => (gapAdd (gpN m l at0 k).1 (gpN m l at0 k).2 (l.getD k 0).toNat, (l.getD k 0).toNat + m.wdAt (l.getD k 0).toNat)
theorem gpN_le (m : HM) (l : List Int) (at0 k : Nat) : (gpN m l at0 k).1.length ≤ k := by
  induction k with
  | zero => exact Nat.le_refl _
  | succ k ih => have := gapAdd_le (gpN m l at0 k).1 (gpN m l at0 k).2 (l.getD k 0).toNat; show (gapAdd _ _ _).length ≤ _; omega
def HM.gapL (m : HM) (i : Int) : List (Nat × Nat) :=
  if inB m.bl.length i = true ∧ m.st i.toNat = 1 then gapAdd (gpN m (m.objL i) (64 * i.toNat) (m.objL i).length).1 (gpN m (m.objL i) (64 * i.toNat) (m.objL i).length).2 (64 * (i.toNat + 1)) else []
section
variable {w w' : World} {b : HB} {r : RM} {m : HM} {q : Nat}
theorem objL_at {k i : Nat} (hk : k < m.bl.length) (hi : i < (m.objL (k : Int)).length) : ∃ (a : Nat) (o : Ob), (m.objL (k : Int)).getD i 0 = (a : Int) ∧ m.ob a = some o ∧ 64 * k ≤ a ∧ a < 64 * (k + 1) := by
  have hb : inB m.bl.length (k : Int) = true := decide_eq_true ⟨by omega, by omega⟩
  have e : m.objL (k : Int) = fpL m (k * 32) 32 := by simp [HM.objL, hb]
  rw [e] at hi ⊢
  have hm : (fpL m (k * 32) 32).getD i 0 ∈ fpL m (k * 32) 32 := by
    rw [List.getD_eq_getElem?_getD, List.getElem?_eq_getElem hi]
    exact List.getElem_mem hi
  obtain ⟨j, h1, h2, h3⟩ := (fpL_mem _ _ _ _).1 hm
  obtain ⟨o, ho⟩ := Option.isSome_iff_exists.1 h3
  exact ⟨2 * (k * 32 + j), o, h2, ho, by omega, by omega⟩
theorem objL_lt {k i j : Nat} (hk : k < m.bl.length) (hi : i < j) (hj : j < (m.objL (k : Int)).length) : (m.objL (k : Int)).getD i 0 < (m.objL (k : Int)).getD j 0 := by
  have hb : inB m.bl.length (k : Int) = true := decide_eq_true ⟨by omega, by omega⟩
  have e : m.objL (k : Int) = fpL m (k * 32) 32 := by simp [HM.objL, hb]
  rw [e] at hj ⊢
  have := List.pairwise_iff_getElem.1 (fpL_sorted m (k * 32) 32) i j (by omega) hj hi
  rw [List.getD_eq_getElem?_getD, List.getD_eq_getElem?_getD, List.getElem?_eq_getElem (by omega), List.getElem?_eq_getElem hj]
  exact this
/-- Where the objects before the k-th one end, it has not begun. -/
theorem gpN_before (I : m.Inv) {k i : Nat} (hk : k < m.bl.length) (hi : i < (m.objL (k : Int)).length) : (gpN m (m.objL (k : Int)) (64 * k) i).2 ≤ ((m.objL (k : Int)).getD i 0).toNat := by
  obtain ⟨a, o, e, ho, h1, h2⟩ := objL_at hk hi
  rcases i with _ | i
  · show 64 * k ≤ _
    rw [e]; simp; omega
  · obtain ⟨a', o', e', ho', h1', h2'⟩ := objL_at (i := i) hk (by omega)
    have hlt := objL_lt hk (Nat.lt_succ_self i) hi
    show ((m.objL (k : Int)).getD i 0).toNat + m.wdAt ((m.objL (k : Int)).getD i 0).toNat ≤ _
    rw [e, e'] at *
    simp only [Int.toNat_natCast]
    have := I.apart _ _ _ _ ho' ho (by omega)
    unfold HM.wdAt
    rw [ho']
    exact this
theorem gpN_end (I : m.Inv) {k : Nat} (hk : k < m.bl.length) (hst : m.st k = 1) : (gpN m (m.objL (k : Int)) (64 * k) (m.objL (k : Int)).length).2 ≤ 64 * (k + 1) := by
  rcases hn : (m.objL (k : Int)).length with _ | n
  · show 64 * k ≤ _
    omega
  · obtain ⟨a, o, e, ho, h1, h2⟩ := objL_at (i := n) hk (by omega)
    show ((m.objL (k : Int)).getD n 0).toNat + m.wdAt ((m.objL (k : Int)).getD n 0).toNat ≤ _
    rw [e]
    simp only [Int.toNat_natCast]
    unfold HM.wdAt
    rw [ho]
    simp only
    have hs := I.lie _ _ ho
    unfold suitB at hs
    have hak : a / 64 = k := by omega
    rw [hak] at hs
    unfold HM.st at hst
    split at hs
    · have := of_decide_eq_true hs
      omega
    · have := of_decide_eq_true hs
      omega
set_option maxHeartbeats 1000000 in
theorem h_withGap {B : Nat} {v : Value} {rs : List (Nat × Nat)} {f e : Nat} (own : w.ownsRow B 64 2 v rs.length (rcells rs)) (hB : B ≤ w.heap.size) (hf : f ≤ e) (he : e ≤ 100000) (hl : rs.length ≤ 10000) :
    Calls Tryz.prog 91 #[v, .int .i64 (f : Int), .int .i64 (e : Int)] w (Grows B w (gapAdd rs f e)) := by
  by_cases hfe : f = e
  · have e1 : gapAdd rs f e = rs := by simp [gapAdd, hfe]
    rw [e1]
    have t : ((f : Int) == (e : Int)) = true := beq_iff_eq.2 (by omega)
    have HO := hid own
    clear hfe e1 own
    go_enter Tryz.func91, Tryz.ntmps91
    go_wp2
    go_ret
    exact ⟨_, rfl, HO.out, Below.refl _ _⟩
  · have e1 : gapAdd rs f e = rs ++ [(f, e - f)] := by simp [gapAdd, hfe]
    rw [e1]
    obtain ⟨i0, hi0, hz0, hz1, hz2⟩ := info_parts infoRun
    have t : ((f : Int) == (e : Int)) = false := beq_eq_false_iff_ne.2 (by omega)
    have OWN := hid own
    have HN : Hid _ := run_news w (f : Int) ((e : Int) - (f : Int)) 0
    have NONE := run_news_one (f : Int) ((e : Int) - (f : Int))
    have HZ : Hid ((e : Int) - (f : Int) = ((e - f : Nat) : Int)) := by show _ = _; omega
    clear own hfe e1
    go_enter Tryz.func91, Tryz.ntmps91
    go_wp2_with (at_builtin; refine wpList_append_own _ rfl (.tmp 11) (.tmp 17) 50 rfl B 64 i0 (.agg #[.int .i64 0, .int .i64 0]) 2 16 Tryz.underlying50 hi0 hz0 hz1 hz2 rfl (by decide) _ _ _ rfl (OWN.out.alloc _) ⟨w.heap.size, 0, none⟩ 1 1 [.int .i64 (f : Int), .int .i64 ((e : Int) - (f : Int))] rfl rfl HN.out NONE (by unfold maxLen; omega) (by omega) (by simp; omega) ?_; intro v' w1 hown' hgr _)
    have HO := hid hown'
    have HG := hid hgr
    clear hown' hgr
    go_wp2
    go_ret
    have h1 := HO.out
    have h2 := HG.out
    rw [HZ.out] at h1 h2
    exact grows_end (n := 0) hB rfl OWN.out h1 h2
end
end Go.Proofs.YtkhemendnoeciaaGreat
