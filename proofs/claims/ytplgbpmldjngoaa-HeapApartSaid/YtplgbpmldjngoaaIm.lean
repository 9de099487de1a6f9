/-
  Plain mathematics for the laws HeapMoves and HeapWords: what a move leaves; how many objects there are; what words hold, object by object. No condition but those stated.
-/
import Derived.Test.YtplgbpmldjngoaaIj
namespace Go.Proofs.Ytplgbpmldjngoaa
set_option linter.unusedVariables false
set_option linter.unusedSimpArgs false

/-- What a move that is done does. -/
theorem moved {m : HM} (I : m.Inv) {f t : Int} (h : m.moveE f t = 0) : ∃ (k j : Nat) (o : Ob), f = (k : Int) ∧ t = (j : Int) ∧ m.ob k = some o ∧ j % 2 = 0 ∧ j < m.n ∧
    m.moveM f t = ((m.del k).add j o).fwd k j ∧ ∀ a x, m.ob a = some x → a ≠ k → a ≠ j := by
  unfold HM.moveE at h
  rcases hb : m.has f
  · rw [hb, if_neg (by decide)] at h; cases h
  · obtain ⟨k, o, rfl, ho⟩ := has_nat hb
    rw [hb, if_pos rfl, Int.toNat_natCast, ho] at h
    simp only at h
    have hz := h
    obtain ⟨j, rfl, h1, h2, h3, h4⟩ := roomE_zero h
    have hE : m.moveE (k : Int) (j : Int) = 0 := by simp [HM.moveE, hb, ho, hz]
    refine ⟨k, j, o, rfl, rfl, ho, h1, h2, ?_, ?_⟩
    · unfold HM.moveM
      rw [if_pos hE, Int.toNat_natCast, ho, Int.toNat_natCast]
    · intro a x hx hne he
      subst he
      have hw := (I.ok _ _ hx).wd_bd
      have hwo := (I.ok _ _ ho).wd_bd
      exact hne (free_of I h1 hwo.2.2.1 h4 (Nat.le_refl _) (by omega) hx (Nat.le_refl _) (by omega))
theorem moved_ob {m : HM} {k j : Nat} {o : Ob} (a : Nat) : (((m.del k).add j o).fwd k j).ob a = if a = j then some o else if a = k then none else m.ob a := rfl
/-- The number of objects is the number of pairs that begin one. -/
theorem fpL_len (m : HM) (f n : Nat) : (fpL m f n).length = cntN (fun i => (m.ob (2 * (f + i))).isSome) n := by
  induction n with
  | zero => rfl
  | succ n ih =>
    unfold fpL cntN
    split
    · rename_i h; rw [List.length_append, ih]; rfl
    · rename_i h; rw [ih]; rfl
theorem cntN_congr {p p' : Nat → Bool} {n : Nat} (h : ∀ i, i < n → p i = p' i) : cntN p n = cntN p' n := by
  induction n with
  | zero => rfl
  | succ n ih => unfold cntN; rw [ih (fun i hi => h i (by omega)), h n (by omega)]
theorem cntN_one {p p' : Nat → Bool} {n i : Nat} (hi : i < n) (h1 : p i = false) (h2 : p' i = true) (h : ∀ j, j < n → j ≠ i → p j = p' j) : cntN p' n = cntN p n + 1 := by
  induction n with
  | zero => omega
  | succ n ih =>
    by_cases hn : i = n
    · subst hn
      unfold cntN
      rw [cntN_congr (p := p) (p' := p') (fun j hj => h j (by omega) (by omega)), h1, h2]
      rfl
    · unfold cntN
      rw [ih (by omega) (fun j hj hne => h j (by omega) hne), h n (by omega) (by omega)]
      omega
theorem moved_len {m : HM} (I : m.Inv) {f t : Int} (h : m.moveE f t = 0) : (m.moveM f t).allL.length = m.allL.length := by
  obtain ⟨k, j, o, rfl, rfl, ho, h1, h2, e, hne⟩ := moved I h
  rw [e]
  unfold HM.allL
  rw [fpL_len, fpL_len]
  have he := I.even _ _ ho
  have hh := I.hi ho
  have hw := (I.ok _ _ ho).wd_bd
  have hn : m.n = 64 * m.bl.length := rfl
  show cntN (fun i => ((((m.del k).add j o).fwd k j).ob (2 * (0 + i))).isSome) (32 * m.bl.length) = _
  simp only [moved_ob, Nat.zero_add]
  by_cases hkj : k = j
  · subst hkj
    refine cntN_congr fun i hi => ?_
    by_cases hik : 2 * i = k
    · rw [if_pos hik, hik, ho]
    · rw [if_neg hik, if_neg hik]
  · have hj0 : m.ob j = none := by
      rcases hx : m.ob j with _ | x
      · rfl
      · exact absurd rfl (hne j x hx (fun h => hkj h.symm))
    have g1 : cntN (fun i => ((if 2 * i = j then some o else if 2 * i = k then none else m.ob (2 * i)) : Option Ob).isSome) (32 * m.bl.length) = cntN (fun i => ((if 2 * i = k then none else m.ob (2 * i)) : Option Ob).isSome) (32 * m.bl.length) + 1 := by
      refine cntN_one (i := j / 2) (by omega) ?_ ?_ fun x hx hxj => ?_
      · show ((if 2 * (j / 2) = k then none else m.ob (2 * (j / 2))) : Option Ob).isSome = false
        rw [show 2 * (j / 2) = j by omega, hj0]
        split <;> rfl
      · show ((if 2 * (j / 2) = j then some o else if 2 * (j / 2) = k then none else m.ob (2 * (j / 2))) : Option Ob).isSome = true
        rw [if_pos (by omega)]; rfl
      · show _ = ((if 2 * x = j then some o else if 2 * x = k then none else m.ob (2 * x)) : Option Ob).isSome
        rw [if_neg (show ¬ 2 * x = j by omega)]
    have g2 : cntN (fun i => (m.ob (2 * i)).isSome) (32 * m.bl.length) = cntN (fun i => ((if 2 * i = k then none else m.ob (2 * i)) : Option Ob).isSome) (32 * m.bl.length) + 1 := by
      refine cntN_one (i := k / 2) (by omega) ?_ ?_ fun x hx hxj => ?_
      · show ((if 2 * (k / 2) = k then none else m.ob (2 * (k / 2))) : Option Ob).isSome = false
        rw [if_pos (by omega)]; rfl
      · show (m.ob (2 * (k / 2))).isSome = true
        rw [show 2 * (k / 2) = k by omega, ho]; rfl
      · show ((if 2 * x = k then none else m.ob (2 * x)) : Option Ob).isSome = _
        rw [if_neg (show ¬ 2 * x = k by omega)]
    rw [g1, g2]

/-- Is a word one of an object below a, or of the first c words of the one at a. -/
def HM.cc (m : HM) (a c k : Nat) : Prop := (m.own k ≠ 0 ∧ m.own k < a) ∨ (m.own k = a ∧ m.own k ≠ 0 ∧ k < a + c)
instance (m : HM) (a c k : Nat) : Decidable (m.cc a c k) := by unfold HM.cc; infer_instance
/-- What a list holds that follows V at these words. -/
def HM.gl (m : HM) (V : Nat → Int) (a c : Nat) : List Int := (List.range m.n).map fun k => if m.cc a c k then V k else 0
@[simp] theorem gl_length (m : HM) (V : Nat → Int) (a c : Nat) : (m.gl V a c).length = m.n := by simp [HM.gl]
theorem gl_get (m : HM) (V : Nat → Int) (a c k : Nat) (hk : k < m.n) : (m.gl V a c).getD k 0 = if m.cc a c k then V k else 0 := by
  unfold HM.gl
  rw [List.getD_eq_getElem?_getD, List.getElem?_map, List.getElem?_range hk]
  rfl
theorem list_getD_ext {l l' : List Int} (hl : l.length = l'.length) (h : ∀ k, k < l.length → l.getD k 0 = l'.getD k 0) : l = l' := by
  apply List.ext_getElem hl
  intro i h1 h2
  have := h i h1
  rw [List.getD_eq_getElem?_getD, List.getElem?_eq_getElem h1, List.getD_eq_getElem?_getD, List.getElem?_eq_getElem h2] at this
  exact this
theorem wordV_in {m : HM} (I : m.Inv) {a c : Nat} {o : Ob} (ho : m.ob a = some o) (hc : c < o.wd) : m.wordV ((a + c : Nat) : Int) = o.word c := by
  have hh := I.hi ho
  have hl := I.lo ho
  unfold HM.wordV
  rw [if_pos (show inB m.n _ = true from decide_eq_true ⟨by omega, by omega⟩), Int.toNat_natCast, own_cov I ho (by omega) (by omega), ho]
  simp only
  congr 1
  omega
theorem wordV_out {m : HM} (I : m.Inv) {k : Nat} (h : m.own k = 0) : m.wordV (k : Int) = 0 := by
  unfold HM.wordV
  split
  · rw [Int.toNat_natCast, h]
    rcases hz : m.ob 0 with _ | o
    · rfl
    · have := I.lo hz; omega
  · rfl
theorem cc_step {m : HM} (I : m.Inv) {a c : Nat} {o : Ob} (ho : m.ob a = some o) (hc : c < o.wd) (k : Nat) : m.cc a (c + 1) k ↔ (m.cc a c k ∨ k = a + c) := by
  have hl := I.lo ho
  have hown := own_cov I ho (k := a + c) (by omega) (by omega)
  unfold HM.cc
  constructor
  · rintro (h | ⟨h1, h2, h3⟩)
    · exact .inl (.inl h)
    · by_cases hk : k = a + c
      · exact .inr hk
      · exact .inl (.inr ⟨h1, h2, by omega⟩)
  · rintro ((h | ⟨h1, h2, h3⟩) | rfl)
    · exact .inl h
    · exact .inr ⟨h1, h2, by omega⟩
    · exact .inr ⟨hown, by omega, by omega⟩
theorem cc_not {m : HM} (I : m.Inv) {a c : Nat} {o : Ob} (ho : m.ob a = some o) (hc : c < o.wd) : ¬ m.cc a c (a + c) := by
  have hown := own_cov I ho (k := a + c) (by omega) (by omega)
  unfold HM.cc
  omega
theorem gl_step {m : HM} (I : m.Inv) {V : Nat → Int} {a c : Nat} {o : Ob} (ho : m.ob a = some o) (hc : c < o.wd) : (m.gl V a c).set (a + c) (V (a + c)) = m.gl V a (c + 1) := by
  have hh := I.hi ho
  refine list_getD_ext (by simp) fun k hk => ?_
  simp at hk
  rw [gl_get _ _ _ _ _ hk, List.getD_eq_getElem?_getD, List.getElem?_set]
  have hcs := cc_step I ho hc k
  by_cases he : a + c = k
  · subst he
    rw [if_pos rfl, if_pos (by simpa using hk), if_pos (hcs.2 (.inr rfl))]
    rfl
  · rw [if_neg he, ← List.getD_eq_getElem?_getD, gl_get _ _ _ _ _ hk]
    have : m.cc a c k ↔ m.cc a (c + 1) k := by
      rw [hcs]
      exact ⟨.inl, fun h => h.elim id (fun h => absurd h.symm he)⟩
    simp only [this]
/-- The word that makes the words even is 0. -/
theorem word_pad {o : Ob} (h : o.Ok) {c : Nat} (hc : 2 + (o.refs + o.data) ≤ c) : o.word c = 0 := by
  have := h.len
  unfold Ob.word
  rw [if_neg (by omega), if_neg (by omega), List.getD_eq_getElem?_getD, List.getElem?_eq_none (by omega)]
  rfl
/-- The address of the next object. -/
def HM.nxt (m : HM) (j : Nat) : Nat := if j < m.allL.length then (m.allL.getD j 0).toNat else m.n
theorem nxt_at {m : HM} {j t : Nat} (hj : j < m.allL.length) (ht : m.allL.getD j 0 = (t : Int)) : m.nxt j = t := by
  unfold HM.nxt
  rw [if_pos hj, ht, Int.toNat_natCast]
/-- An object that begins below the next one is one before. -/
theorem below_nxt {m : HM} (I : m.Inv) {j a : Nat} {o : Ob} (hj : j ≤ m.allL.length) (ho : m.ob a = some o) : a < m.nxt j ↔ ∃ i, i < j ∧ m.allL.getD i 0 = (a : Int) := by
  obtain ⟨i, hi, he⟩ := all_mem I ho
  have hh := I.hi ho
  have hw := (I.ok _ _ ho).wd_bd
  by_cases hl : j < m.allL.length
  · obtain ⟨t, x, ht, hx⟩ := all_at hl
    rw [nxt_at hl ht]
    constructor
    · intro h
      refine ⟨i, ?_, he⟩
      rcases Nat.lt_trichotomy i j with h1 | h1 | h1
      · exact h1
      · subst h1; rw [he] at ht; omega
      · have := all_lt h1 hi; rw [he, ht] at this; omega
    · rintro ⟨y, hy, hye⟩
      have := all_lt hy hl
      rw [hye, ht] at this
      omega
  · unfold HM.nxt
    rw [if_neg hl]
    exact ⟨fun _ => ⟨i, by omega, he⟩, fun _ => by omega⟩
theorem cc_next {m : HM} (I : m.Inv) {j a c : Nat} {o : Ob} (hj : j < m.allL.length) (ht : m.allL.getD j 0 = (a : Int)) (ho : m.ob a = some o) (hc : c ≤ o.wd) (k : Nat) :
    m.cc (m.nxt (j + 1)) 0 k ↔ (m.cc a c k ∨ (m.own k = a ∧ a + c ≤ k)) := by
  unfold HM.cc
  rcases own_cases I k with ⟨a', o', h0, h1, h2, h3⟩ | ⟨h1, h2⟩
  · have hl' := I.lo h0
    have hb1 := below_nxt I (show j + 1 ≤ m.allL.length by omega) h0
    have hb0 := below_nxt I (show j ≤ m.allL.length by omega) h0
    rw [nxt_at hj ht] at hb0
    rw [h3]
    by_cases he : a' = a
    · subst he
      have hx : a' < m.nxt (j + 1) := hb1.2 ⟨j, by omega, ht⟩
      constructor
      · intro _
        by_cases hk : k < a' + c
        · exact .inl (.inr ⟨rfl, by omega, hk⟩)
        · exact .inr ⟨rfl, by omega⟩
      · intro _
        exact .inl ⟨by omega, hx⟩
    · constructor
      · rintro (⟨_, h5⟩ | ⟨h5, _, h6⟩)
        · obtain ⟨i, hi, hie⟩ := hb1.1 h5
          by_cases hij : i = j
          · subst hij
            rw [ht] at hie
            omega
          · exact .inl (.inl ⟨by omega, hb0.2 ⟨i, by omega, hie⟩⟩)
        · omega
      · rintro ((⟨_, h5⟩ | ⟨h5, _⟩) | ⟨h5, _⟩)
        · obtain ⟨i, hi, hie⟩ := hb0.1 h5
          exact .inl ⟨by omega, hb1.2 ⟨i, by omega, hie⟩⟩
        · exact absurd h5 he
        · exact absurd h5 he
  · rw [h2]
    have := I.lo ho
    omega
theorem gl_next {m : HM} (I : m.Inv) {V : Nat → Int} {j a c : Nat} {o : Ob} (hj : j < m.allL.length) (ht : m.allL.getD j 0 = (a : Int)) (ho : m.ob a = some o) (hc : c ≤ o.wd) (hV : ∀ k, a + c ≤ k → k < a + o.wd → V k = 0) : m.gl V a c = m.gl V (m.nxt (j + 1)) 0 := by
  refine list_getD_ext (by simp) fun k hk => ?_
  simp at hk
  rw [gl_get _ _ _ _ _ hk, gl_get _ _ _ _ _ hk]
  have h := cc_next I hj ht ho hc k
  by_cases h1 : m.cc a c k
  · rw [if_pos h1, if_pos (h.2 (.inl h1))]
  · rw [if_neg h1]
    by_cases h2 : m.own k = a ∧ a + c ≤ k
    · rw [if_pos (h.2 (.inr h2))]
      rcases own_cases I k with ⟨a', o', h0, g1, g2, g3⟩ | ⟨g1, g2⟩
      · have : a' = a := by omega
        subst this
        rw [h0] at ho
        cases ho
        exact (hV k h2.2 g2).symm
      · have := I.lo ho; omega
    · rw [if_neg (fun h3 => (h.1 h3).elim h1 h2)]
theorem cc_first {m : HM} (I : m.Inv) (k : Nat) : ¬ m.cc (m.nxt 0) 0 k := by
  unfold HM.cc
  rcases own_cases I k with ⟨a', o', h0, h1, h2, h3⟩ | ⟨h1, h2⟩
  · have hb1 := below_nxt I (show 0 ≤ m.allL.length by omega) h0
    rw [h3]
    rintro (⟨_, h5⟩ | ⟨h5, _, h6⟩)
    · obtain ⟨i, hi, _⟩ := hb1.1 h5; omega
    · omega
  · omega
theorem gl_first {m : HM} (I : m.Inv) (V : Nat → Int) : m.gl V (m.nxt 0) 0 = List.replicate m.n 0 := by
  refine list_getD_ext (by simp) fun k hk => ?_
  simp at hk
  rw [gl_get _ _ _ _ _ hk, if_neg (cc_first I k)]
  rw [List.getD_eq_getElem?_getD, List.getElem?_replicate]; split <;> rfl
theorem cc_last {m : HM} (I : m.Inv) (k : Nat) : m.cc (m.nxt m.allL.length) 0 k ↔ m.own k ≠ 0 := by
  unfold HM.cc
  rcases own_cases I k with ⟨a', o', h0, h1, h2, h3⟩ | ⟨h1, h2⟩
  · have hb1 := below_nxt I (Nat.le_refl m.allL.length) h0
    obtain ⟨i, hi, he⟩ := all_mem I h0
    rw [h3]
    exact ⟨fun h => by omega, fun h => .inl ⟨h, hb1.2 ⟨i, hi, he⟩⟩⟩
  · omega
theorem gl_last {m : HM} (I : m.Inv) {V : Nat → Int} (hV : ∀ k, m.own k = 0 → V k = 0) {k : Nat} (hk : k < m.n) : (m.gl V (m.nxt m.allL.length) 0).getD k 0 = V k := by
  rw [gl_get _ _ _ _ _ hk]
  by_cases h : m.own k = 0
  · rw [if_neg (fun hc => (cc_last I k).1 hc h), hV k h]
  · rw [if_pos ((cc_last I k).2 h)]
end Go.Proofs.Ytplgbpmldjngoaa
